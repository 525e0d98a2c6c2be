/-
  The contracts of slices.DeleteFunc with settle's predicate, and of settle.
-/
import Derived.Test.YtbpkcgkcamkggaaGreatDoorT917
set_option linter.unusedVariables false
set_option maxRecDepth 100000
namespace Go.Proofs.YtbpkcgkcamkggaaGreatDoor
open Go.RowKit

/-- the sectors of the other files, and of the file. -/
def offs (f : Int) (q : List (Int × Nat)) : List (Int × Nat) := q.filter (fun x => x.1 ≠ f)
def ofs (f : Int) (q : List (Int × Nat)) : List (Int × Nat) := q.filter (fun x => decide (x.1 = f))
/-- what is listed when j sectors have been looked at. -/
def setAt (f : Int) (q : List (Int × Nat)) (j : Nat) : List (Int × Nat) := offs f (q.take j) ++ q.drop j

theorem offs_next {f : Int} {q : List (Int × Nat)} {j : Nat} (h : j < q.length) : offs f (q.take (j + 1)) = if q[j].1 = f then offs f (q.take j) else offs f (q.take j) ++ [q[j]] := by
  unfold offs
  rw [List.take_succ_eq_append_getElem h, List.filter_append]
  split
  · rename_i c; simp [c]
  · rename_i c; simp [c]
theorem ofs_next {f : Int} {q : List (Int × Nat)} {j : Nat} (h : j < q.length) : ofs f (q.take (j + 1)) = if q[j].1 = f then ofs f (q.take j) ++ [q[j]] else ofs f (q.take j) := by
  unfold ofs
  rw [List.take_succ_eq_append_getElem h, List.filter_append]
  split
  · rename_i c; simp [c]
  · rename_i c; simp [c]
theorem setAt_keep {f : Int} {q : List (Int × Nat)} {j : Nat} (h : j < q.length) (hn : q[j].1 ≠ f) : setAt f q (j + 1) = setAt f q j := by
  unfold setAt
  rw [offs_next h, if_neg hn, List.append_assoc, List.singleton_append, ← List.drop_eq_getElem_cons h]
theorem setAt_strike {f : Int} {q : List (Int × Nat)} {j : Nat} (h : j < q.length) (hn : q[j].1 = f) : setAt f q (j + 1) = (setAt f q j).erase q[j] := by
  unfold setAt
  rw [offs_next h, if_pos hn, List.erase_append_right _ (fun hm => by
    have := (List.mem_filter.1 hm).2
    simp [hn] at this), List.drop_eq_getElem_cons h, List.erase_cons_head]
theorem setAt_zero {f : Int} {q : List (Int × Nat)} : ∀ {j : Nat}, j ≤ q.length → (∀ i (hi : i < q.length), i < j → q[i].1 ≠ f) → setAt f q j = q ∧ ofs f (q.take j) = [] ∧ offs f (q.take j) = q.take j := by
  intro j
  induction j with
  | zero => intro _ _; simp [setAt, offs, ofs]
  | succ j ih =>
    intro hj hall
    have hlt : j < q.length := by omega
    have hn := hall j hlt (by omega)
    obtain ⟨h1, h2, h3⟩ := ih (by omega) (fun i hi hij => hall i hi (by omega))
    refine ⟨by rw [setAt_keep hlt hn]; exact h1, by rw [ofs_next hlt, if_neg hn]; exact h2, ?_⟩
    rw [offs_next hlt, if_neg hn, h3, List.take_succ_eq_append_getElem hlt]
theorem offs_len (f : Int) (q : List (Int × Nat)) (j : Nat) : (offs f (q.take j)).length ≤ j := by
  unfold offs
  have := List.length_filter_le (fun x : Int × Nat => decide (x.1 ≠ f)) (q.take j)
  have h2 := List.length_take_le j q
  omega
theorem setAt_all (f : Int) (q : List (Int × Nat)) : setAt f q q.length = offs f q := by simp [setAt]

/-- the durable parts when j sectors have been looked at. -/
def lastAt (d : Dk) (f : Int) (q : List (Int × Nat)) (j : Nat) : Int → List UInt8 := survs d.now d.last (ofs f (q.take j))
theorem lastAt_next {d : Dk} {f : Int} {q : List (Int × Nat)} {j : Nat} (h : j < q.length) : lastAt d f q (j + 1) = if q[j].1 = f then surv d.now (lastAt d f q j) q[j] else lastAt d f q j := by
  unfold lastAt
  rw [ofs_next h]
  split
  · simp only [survs, List.foldl_append, List.foldl_cons, List.foldl_nil]
  · rfl

/-- a step that may write the row g, too. -/
structure GStep (g : Nat) (L L' : Lay) (w w' : World) : Prop where
  fr : PFr (fun b => COwn L b ∨ b = g) w w'
  own : ∀ b, COwn L' b → COwn L b ∨ w.heap.size ≤ b
  qv : L'.qv = L.qv
  l : L'.l = L.l
  fb : L'.fb = L.fb
  kv : L'.kv = L.kv
theorem CStep.gstep {g : Nat} {L L' : Lay} {w w' : World} (k : CStep L L' w w') : GStep g L L' w w' :=
  ⟨⟨k.fr.os, k.fr.tape, k.fr.output, k.fr.size, fun b hb hn => k.fr.block b hb (fun ho => hn (.inl ho))⟩, k.own, k.qv, k.l, k.fb, k.kv⟩
theorem GStep.trans {g : Nat} {L L' L'' : Lay} {a b c : World} (h : GStep g L L' a b) (k : GStep g L' L'' b c) : GStep g L L'' a c :=
  ⟨h.fr.trans k.fr (fun i hi => by
    rcases hi with hi | hi
    · rcases h.own i hi with h1 | h1
      · exact .inl (.inl h1)
      · exact .inr h1
    · exact .inl (.inr hi)), fun i hi => by
    rcases k.own i hi with h1 | h1
    · exact h.own i h1
    · have := h.fr.size
      right; omega, k.qv.trans h.qv, k.l.trans h.l, k.fb.trans h.fb, k.kv.trans h.kv⟩
theorem GStep.block {g r : Nat} {L L' : Lay} {d : Dk} {S : List (Int × Nat)} {w w' : World} (k : GStep g L L' w w') (h : PRaw r L d S w) {b : Nat} {c : Array Value} {T : TypeId} {z : Nat × Nat} (hb : w.heap[b]? = some (.cells c T z)) (h1 : T ≠ 64) (h2 : T ≠ 5) (hg : b ≠ g) : w'.heap[b]? = some (.cells c T z) :=
  (k.fr.block b (brow_lt hb) (fun ho => by
    rcases ho with ho | ho
    · exact h.cown hb h1 h2 ho
    · exact hg ho)).trans hb
theorem GStep.step {g r : Nat} {L L' : Lay} {w w' : World} (k : GStep g L L' w w') (hg : L.qv.ownBlock = some g) : PStep r L L' w w' :=
  ⟨⟨k.fr.os, k.fr.tape, k.fr.output, k.fr.size, fun b hb hn => k.fr.block b hb (fun ho => hn (by
      rcases ho with (ho | ho) | ho
      · exact .inr (.inl ho)
      · exact .inr (.inr (.inr ho))
      · exact .inr (.inr (.inl (by rw [ho]; exact hg)))))⟩, fun b hb => by
    rcases hb with hb | hb | hb | hb
    · exact .inl (.inl hb)
    · rcases k.own b (.inl hb) with h1 | h1
      · rcases h1 with h1 | h1
        · exact .inl (.inr (.inl h1))
        · exact .inl (.inr (.inr (.inr h1)))
      · exact .inr h1
    · rw [k.qv] at hb
      exact .inl (.inr (.inr (.inl hb)))
    · rcases k.own b (.inr hb) with h1 | h1
      · rcases h1 with h1 | h1
        · exact .inl (.inr (.inl h1))
        · exact .inl (.inr (.inr (.inr h1)))
      · exact .inr h1, fun b hb => by rw [k.kv] at hb; exact .inl hb⟩
/-- a write into the row g. -/
theorem GStep.row {g : Nat} {L : Lay} {w w' : World} (h : w.grownBy w' (some g)) : GStep g L L w w' :=
  ⟨PFr.of_grown h (fun b e => by injection e with e; exact .inr e.symm), fun _ h => .inl h, rfl, rfl, rfl, rfl⟩
theorem PRaw.rowed {g r : Nat} {L : Lay} {d : Dk} {S : List (Int × Nat)} {w w' : World} (h : PRaw r L d S w) {c : Array Value} (hg : w.heap[g]? = some (.cells c 80 (0, 0))) (hw : w.grownBy w' (some g)) : PRaw r L d S w' := by
  refine h.kept fun b hb => hw.block b (h.own_lt hb) (fun e => ?_)
  injection e with e
  subst e
  rcases hb with rfl | rfl | hb | hb
  · rw [h.cell] at hg; simp only [Option.some.injEq, Obj.cells.injEq] at hg; exact absurd hg.2.1 (by decide)
  · obtain ⟨es, cc, hm⟩ := h.set.isMap
    rw [hm] at hg; cases hg
  · exact h.files.free hg (by decide) (by decide) hb
  · exact other_kind h.keep hg (by decide) hb

/-- what DeleteFunc leaves. -/
def DfPost (r : Nat) (L : Lay) (d : Dk) (f : Int) (q : List (Int × Nat)) (w : World) (e : Ending) (w' : World) : Prop :=
  ∃ v' L', e = .returned v' ∧ PRaw r L' { d with last := survs d.now d.last (ofs f q) } (offs f q) w' ∧ w'.ownsRow 0 80 2 v' (offs f q).length (qcells (offs f q)) ∧ PStep r L L' w w' ∧ L'.qv = L.qv ∧ L'.l = L.l ∧ L'.fb = L.fb
    ∧ ∀ b, v'.ownBlock = some b → L.qv.ownBlock = some b

/-- the loop of DeleteFunc, j sectors looked at. -/
def DfAt (r : Nat) (L : Lay) (d : Dk) (f : Int) (q : List (Int × Nat)) (g : Nat) (cur : Array Value) (j : Nat) (w wr : World) : Prop :=
  ∃ L', PRaw r L' { d with last := lastAt d f q j } (setAt f q j) wr ∧ GStep g L L' w wr ∧ ∃ c2, wr.heap[g]? = some (.cells c2 80 (0, 0)) ∧ c2.toList = qcells (offs f (q.take j)) ++ cur.toList.drop ((offs f (q.take j)).length * 2)

theorem zeros_sec (k : Nat) : (Builtin.zeroCells (Value.agg #[.int .i64 0, .int .i64 0]).cells k).toList = qcells (List.replicate k (0, 0)) := by
  have e : (Value.agg #[.int .i64 0, .int .i64 0]).cells = #[.int .i64 0, .int .i64 0] := rfl
  rw [e]
  have h : (Builtin.zeroCells #[.int .i64 0, .int .i64 0] k).toList.length = (qcells (List.replicate k (0, 0))).length := by simp [Builtin.zeroCells, qcells_length]
  apply List.ext_getElem h
  intro i h1 h2
  have h3 : i < k * 2 := by rw [qcells_length] at h2; simpa using h2
  have h4 : i / 2 < k := by omega
  obtain ⟨e0, e1⟩ := qcells_at (List.replicate k (0, 0)) (i / 2) (by simpa using h4)
  have hget := List.getElem?_eq_getElem h2
  rcases Nat.mod_two_eq_zero_or_one i with hm | hm
  · rw [show i / 2 * 2 = i by omega, hget] at e0
    simp only [Option.some.injEq] at e0
    rw [e0]
    simp [Builtin.zeroCells, hm]
  · rw [show i / 2 * 2 + 1 = i by omega, hget] at e1
    simp only [Option.some.injEq] at e1
    rw [e1]
    simp [Builtin.zeroCells, hm]

/-- the end of the row is cleared. -/
theorem clear_row {w : World} {g : Nat} {c2 : Array Value} (hg : w.heap[g]? = some (.cells c2 80 (0, 0))) (o n cap : Nat) (hn : 0 < n) (hfit : o + n * 2 ≤ c2.size) (ty : TypeId) :
    ∃ w', (Builtin.clear_ #[58] ty #[.slice (some ⟨g, o, none⟩) n cap]).run Tryz.prog w = .ok (.tuple #[]) w' ∧ w.grownBy w' (some g) ∧ ∃ c3, w'.heap[g]? = some (.cells c3 80 (0, 0)) ∧ c3.size = c2.size ∧ c3.toList.take o = c2.toList.take o := by
  have hz : ∀ w, (zeroValue 80).run Tryz.prog w = .ok (.agg #[.int .i64 0, .int .i64 0]) w := fun w => by kernel_rfl
  have hlen : (qcells (List.replicate n (0, 0))).length = n * 2 := by rw [qcells_length]; simp
  have hst := run_storeCells_at Tryz.prog g o 80 (qcells (List.replicate n (0, 0))) 0 c2 w hg (by rw [hlen]; omega) (one_qcells _)
  have hzz := zeros_sec n
  simp only [Nat.add_zero, hlen] at hst
  refine ⟨w.setRow g (c2.toList.take o ++ qcells (List.replicate n (0, 0)) ++ c2.toList.drop (o + n * 2)).toArray, ?_, ⟨rfl, rfl, rfl, by simp, fun q _ hq => setRow_other w g q _ (fun e => hq (by simp [e]))⟩, _, setRow_heap w g c2 _ 80 _ hg, ?_, ?_⟩
  · obtain ⟨m, rfl⟩ : ∃ m, n = m + 1 := ⟨n - 1, by omega⟩
    simp only [Value.cells] at hzz
    simp [Builtin.clear_, run_underlying Tryz.underlying58, hz, hzz, hst, Value.cells]
  · simp only [List.size_toArray, List.length_append, List.length_take, List.length_drop, Array.length_toList, hlen]; omega
  · rw [List.append_assoc]
    show ((c2.toList.take o) ++ _).take o = _
    rw [List.take_append_of_le_length (by rw [List.length_take, Array.length_toList]; omega), List.take_take, Nat.min_self]

theorem qcells_take (q : List (Int × Nat)) : ∀ k, qcells (q.take k) = (qcells q).take (k * 2) := by
  induction q with
  | nil => intro k; simp [qcells]
  | cons x q ih =>
    intro k
    cases k with
    | zero => simp [qcells]
    | succ k =>
      have e := ih k
      simp only [qcells, List.take_succ_cons, List.flatMap_cons] at e ⊢
      rw [e, show (k + 1) * 2 = k * 2 + 1 + 1 by omega]
      simp only [List.cons_append, List.nil_append, List.take_succ_cons]
theorem first_of {q : List (Int × Nat)} {f : Int} (h : ¬ ∀ x ∈ q, x.1 ≠ f) : ∃ k, ∃ hk : k < q.length, (∀ j (hj : j < q.length), j < k → q[j].1 ≠ f) ∧ q[k].1 = f := by
  have he : ∃ x ∈ q, (fun x : Int × Nat => x.1 == f) x = true := by
    refine Classical.byContradiction fun hc => h fun x hx e => hc ⟨x, hx, by simpa using e⟩
  have hlt := List.findIdx_lt_length_of_exists he
  refine ⟨q.findIdx (fun x => x.1 == f), hlt, fun j hj hjk => ?_, ?_⟩
  · have := List.not_of_lt_findIdx hjk
    simpa using this
  · have := List.findIdx_getElem (w := hlt)
    simpa using this
/-- what lies behind the sectors that stay is as it was. -/
theorem row_later {w : World} {g : Nat} {c2 cur : Array Value} {f : Int} {q : List (Int × Nat)} {j : Nat} (hg : w.heap[g]? = some (.cells c2 80 (0, 0))) (hc : c2.toList = qcells (offs f (q.take j)) ++ cur.toList.drop ((offs f (q.take j)).length * 2))
    (ht : cur.toList.take (q.length * 2) = qcells q) (hj : j < q.length) : w.cell? ⟨g, j * 2, none⟩ = some (.int .i64 q[j].1) ∧ w.cell? ⟨g, j * 2 + 1, none⟩ = some (.int .i64 (q[j].2 : Int)) := by
  have hm := offs_len f q j
  have hql := qcells_length (offs f (q.take j))
  obtain ⟨e0, e1⟩ := qcells_at q j hj
  rw [← ht, List.getElem?_take, if_pos (by omega)] at e0 e1
  have e : ∀ i, (offs f (q.take j)).length * 2 ≤ i → c2[i]? = cur[i]? := fun i hi => by
    rw [← Array.getElem?_toList, hc, List.getElem?_append_right (by omega), hql, List.getElem?_drop, ← Array.getElem?_toList]
    congr 1; omega
  rw [Lib.cell_of_heap hg, Lib.cell_of_heap hg, e _ (by omega), e _ (by omega), ← Array.getElem?_toList, ← Array.getElem?_toList]
  exact ⟨e0, e1⟩

theorem pcells_append (l m : List (Int × Nat)) : qcells (l ++ m) = qcells l ++ qcells m := by simp [qcells]
theorem pcells_one (x : Int × Nat) : qcells [x] = [.int .i64 x.1, .int .i64 (x.2 : Int)] := rfl
theorem list_set2 {α : Type} (A B : List α) (a b : α) (k : Nat) (hk : A.length = k) (h : 2 ≤ B.length) : ((A ++ B).set k a).set (k + 1) b = A ++ [a, b] ++ B.drop 2 := by
  subst hk
  match B, h with
  | x :: y :: B, _ =>
    rw [List.set_append_right _ _ (Nat.le_refl _), List.set_append_right _ _ (by omega)]
    simp

set_option maxRecDepth 100000 in
set_option maxHeartbeats 4000000 in
theorem df_any (r : Nat) (L : Lay) (d : Dk) (f : Int) (q : List (Int × Nat)) (bf bd : Nat) (w : World) (h : PRaw r L d q w) (hq : w.ownsRow 0 80 2 L.qv q.length (qcells q)) (ho : SetOk d f q) (hle : ∀ g, (d.last g).length ≤ (d.now g).length) (hb : Boxes r f bf bd w) :
    Calls Tryz.prog 75 #[L.qv, delFn bf bd] w (DfPost r L d f q w) := by
  by_cases hall : ∀ x ∈ q, x.1 ≠ f
  · obtain ⟨z1, z2, z3⟩ := setAt_zero (f := f) (q := q) (Nat.le_refl q.length) (fun i hi _ => hall _ (List.getElem_mem hi))
    rw [List.take_length] at z2 z3
    have HI := Lib.hid (idx_none r L d q f bf bd L.qv w h hq ho hb hall)
    have HX : Hid (∀ w', (∃ L', PRaw r L' d q w' ∧ CStep L L' w w') → DfPost r L d f q w (.returned L.qv) w') := Lib.hid fun w' ⟨L', p, k⟩ => by
      refine ⟨_, L', rfl, ?_, ?_, k.step, k.qv, k.l, k.fb, fun b hb => hb⟩
      · rw [z3, z2]; exact p
      · rw [z3]
        refine ownKeep hq fun b hb => ?_
        obtain ⟨c, hc⟩ := ownKind hq hb
        exact (k.block h hc (by decide) (by decide)).trans hc.symm
    obtain ⟨A, cap, hv, _⟩ := own_parts hq
    rw [hv] at HI HX ⊢
    clear z1 z2 z3 h hq ho hb hall hle hv
    unfold delFn at HI ⊢
    go_enter Tryz.func75, Tryz.ntmps75
    go_wp2_with fail
    refine HI.out.mono ?_
    rintro e w2 ⟨rfl, h2⟩
    have H2 := Lib.hid (HX.out w2 h2)
    clear h2 HI HX
    go_wp2
    go_ret
    exact H2.out
  · obtain ⟨k0, hk0, hbef, heq⟩ := first_of hall
    have HI := Lib.hid (idx_some r L d q f bf bd L.qv w h hq ho hb k0 hk0 hbef heq)
    obtain ⟨A, cap, hv, hA⟩ := queue_cells hq
    obtain ⟨g, rfl, cur, hg, ht, hcs, hnc, hcm⟩ := hA (by omega)
    have hqg : L.qv.ownBlock = some g := by rw [hv]; rfl
    obtain ⟨z1, z2, z3⟩ := setAt_zero (f := f) (q := q) (Nat.le_of_lt hk0) hbef
    have HS : Hid (∀ w2 e, IdxSome r L d q k0 q[k0] w e w2 → e = .returned (.int .i64 (k0 : Int)) ∧ DfAt r L d f q g cur (k0 + 1) w w2 ∧ (offs f (q.take (k0 + 1))).length = k0) := Lib.hid fun w2 e ⟨he, L1, p1, k1⟩ => by
      have hlen : (offs f (q.take (k0 + 1))) = q.take k0 := by rw [offs_next hk0, if_pos heq, z3]
      refine ⟨he, ⟨L1, ?_, k1.gstep, cur, k1.block h hg (by decide) (by decide), ?_⟩, by rw [hlen, List.length_take, Nat.min_eq_left (by omega)]⟩
      · rw [setAt_strike hk0 heq, z1, lastAt_next hk0, if_pos heq]
        have e : lastAt d f q k0 = d.last := by unfold lastAt; rw [z2]; rfl
        rw [e]; exact p1
      · rw [hlen, qcells_take, ← ht, List.length_take, Nat.min_eq_left (by omega), List.take_take, Nat.min_eq_left (by omega), List.take_append_drop]
    have HH := Lib.hid h
    have HO := Lib.hid ho
    have HB := Lib.hid hb
    have HG := Lib.hid hg
    have HT := Lib.hid ht
    have HQG := Lib.hid hqg
    have HLE := Lib.hid hle
    have hlen := ho.len
    unfold maxLen at hcm
    rw [hv] at HI ⊢
    clear h hq ho hb hg ht hall hle hbef heq z1 z2 z3 hqg hA hv
    unfold delFn at HI ⊢
    go_enter Tryz.func75, Tryz.ntmps75
    go_wp2_with fail
    refine HI.out.mono ?_
    rintro e w2 h2
    obtain ⟨rfl, hd2, hm2⟩ := HS.out w2 e h2
    have HD2 := Lib.hid hd2
    have HM2 := Lib.hid hm2
    clear h2 hd2 HI HS hm2
    have hk00 : (0 : Int) ≤ (k0 : Int) := by omega
    have hk01 : ((k0 : Int) == -1) = false := by simp
    go_wp2_with fail
    go_loopw [5, 6] (fun iv jv wr => ∃ j m : Nat, j ≤ q.length ∧ jv = .int .i64 j ∧ iv = .int .i64 m ∧ m < j ∧ Hid ((offs f (q.take j)).length = m) ∧ DfAt r L d f q g cur j w wr) (fun _ jv _ => q.length - (intOf jv).toNat)
    case atStart => exact ⟨k0 + 1, k0, by omega, by simp, rfl, by omega, HM2.out ▸ HM2, HD2.out⟩
    case round =>
      obtain ⟨j, m, hj, rfl, rfl, hmj, HM, hd⟩ := hrel
      have HD := Lib.hid hd
      clear hd HD2 HM2
      by_cases hlt : j < q.length
      · obtain ⟨L1, p1, s1, c2, g1, t1⟩ := HD.out
        have hcell := row_later g1 t1 HT.out hlt
        obtain ⟨e0, e1⟩ := hcell
        have hc2 : c2.size = cur.size := by
          have e : c2.toList.length = cur.toList.length := by rw [t1, List.length_append, qcells_length, List.length_drop, HM.out, Array.length_toList]; omega
          simpa using e
        have hgl : g < wr.heap.size := brow_lt g1
        have hbf := s1.block HH.out HB.out.f (by decide) (by decide) (fun e => by
          have := HB.out.f
          rw [e, HG.out] at this
          simp only [Option.some.injEq, Obj.cells.injEq] at this
          exact absurd this.2.1 (by decide))
        have hbd := s1.block HH.out HB.out.d (by decide) (by decide) (fun e => by
          have := HB.out.d
          rw [e, HG.out] at this
          simp only [Option.some.injEq, Obj.cells.injEq] at this
          exact absurd this.2.1 (by decide))
        have hlastl : (lastAt d f q j f).length ≤ 16777216 := Nat.le_trans (survs_all _ HLE.out f).1.2 HO.out.now
        have hal : Below wr.heap.size wr (wr.alloc (.cells #[.int .i64 q[j].1, .int .i64 (q[j].2 : Int)] 80)) := (Below.refl _ _).alloc (Nat.le_refl _) _
        have hdel := del_any r L1 { d with last := lastAt d f q j } (setAt f q j) f q[j] bf bd _ (p1.below hal) HO.out.file (fun e => ⟨by
            unfold setAt
            refine List.mem_append_right _ ?_
            rw [List.drop_eq_getElem_cons hlt]; exact List.mem_cons_self, HO.out.inq _ (List.getElem_mem hlt) e⟩) HO.out.now hlastl ((hal.block bf (brow_lt hbf)).trans hbf) ((hal.block bd (brow_lt hbd)).trans hbd)
        have HDEL := Lib.hid hdel
        have P1 := Lib.hid p1
        have S1 := Lib.hid s1
        have G1 := Lib.hid g1
        have T1 := Lib.hid t1
        have HC2 := Lib.hid hc2
        have HAL := Lib.hid hal
        have hi0 : (0 : Int) ≤ (j : Int) := by omega
        have hi1 : (j : Int) < (q.length : Int) := by omega
        clear hdel p1 s1 g1 t1 hc2 hbf hbd hlastl hal HD
        obtain ⟨x, hx⟩ : ∃ x, q[j] = x := ⟨_, rfl⟩
        have HX := Lib.hid hx
        rw [hx] at HDEL e0 e1 HAL
        clear hx
        go_wp2_with fail
        refine HDEL.out.mono ?_
        rintro e w4 ⟨rfl, L4, p4, k4⟩
        have hpa := P1.out.below HAL.out
        have hv4 := k4.block hpa (heap_alloc_new wr _) (by decide) (by decide)
        have hg4 := k4.block hpa ((HAL.out.block g hgl).trans G1.out) (by decide) (by decide)
        have v0 : w4.cell? ⟨wr.heap.size, 0, none⟩ = some (.int .i64 x.1) := by rw [Lib.cell_of_heap hv4]; rfl
        have v1 : w4.cell? ⟨wr.heap.size, 1, none⟩ = some (.int .i64 (x.2 : Int)) := by rw [Lib.cell_of_heap hv4]; rfl
        have K4 := Lib.hid ((S1.out.trans (CStep.of_below HAL.out).gstep).trans k4.gstep)
        have P4 := Lib.hid p4
        have G4 := Lib.hid hg4
        clear hpa hv4 hg4 p4 k4 HDEL
        by_cases hxf : x.1 = f
        · have hd1 : decide (x.1 = f) = true := decide_eq_true hxf
          have HXF := Lib.hid hxf
          rw [hd1]
          clear hd1 hxf
          have HE : Hid ((offs f (q.take (j + 1))).length = m ∧ DfAt r L d f q g cur (j + 1) w w4) := Lib.hid (by
            have hxf := HXF.out
            rw [← HX.out] at hxf
            have h4 := P4.out
            rw [if_pos HXF.out, if_pos HXF.out, ← HX.out] at h4
            refine ⟨by rw [offs_next hlt, if_pos hxf]; exact HM.out, L4, ?_, K4.out, c2, G4.out, ?_⟩
            · rw [lastAt_next hlt, if_pos hxf, setAt_strike hlt hxf]; exact h4
            · rw [offs_next hlt, if_pos hxf]; exact T1.out)
          go_wp2
          go_roundw
          case rel => exact ⟨j + 1, m, by omega, by go_num, rfl, by omega, Lib.hid HE.out.1, HE.out.2⟩
          case measure => simp [intOf]; omega
        · have hd1 : decide (x.1 = f) = false := decide_eq_false hxf
          have HXF := Lib.hid hxf
          rw [hd1]
          clear hd1 hxf
          have hm0 : (0 : Int) ≤ (m : Int) := by omega
          have hm1 : (m : Int) < (q.length : Int) := by omega
          have hlc : m * 2 + 1 < c2.size := by have := HC2.out; omega
          have r0 : w4.cell? ⟨g, m * 2, none⟩ = some c2[m * 2] := by rw [Lib.cell_of_heap G4.out]; simp
          have r1 : w4.cell? ⟨g, m * 2 + 1, none⟩ = some c2[m * 2 + 1] := by rw [Lib.cell_of_heap G4.out]; simp
          have z0 : w4.frozen? ⟨g, m * 2, none⟩ = false := Lib.frozen_of_heap G4.out _
          have z1 : w4.frozen? ⟨g, m * 2 + 1, none⟩ = false := Lib.frozen_of_heap G4.out _
          have HE : Hid ((offs f (q.take (j + 1))).length = m + 1 ∧ DfAt r L d f q g cur (j + 1) w ((w4.setCell ⟨g, m * 2, none⟩ (.int .i64 x.1)).setCell ⟨g, m * 2 + 1, none⟩ (.int .i64 (x.2 : Int)))) := Lib.hid (by
            have hxf := HXF.out
            rw [← HX.out] at hxf
            have h4 := P4.out
            rw [if_neg HXF.out, if_neg HXF.out] at h4
            have hnx : offs f (q.take (j + 1)) = offs f (q.take j) ++ [x] := by rw [offs_next hlt, if_neg hxf, HX.out]
            have hgr := (grownOne w4 g (m * 2) (.int .i64 x.1)).trans (grownOne (w4.setCell ⟨g, m * 2, none⟩ (.int .i64 x.1)) g (m * 2 + 1) (.int .i64 (x.2 : Int)))
            refine ⟨by rw [hnx, List.length_append, HM.out]; rfl, L4, ?_, K4.out.trans (GStep.row hgr), _, heap_set (heap_set G4.out), ?_⟩
            · rw [lastAt_next hlt, if_neg hxf, setAt_keep hlt hxf]
              exact h4.rowed G4.out hgr
            · rw [Array.toList_setIfInBounds, Array.toList_setIfInBounds, T1.out, hnx, List.length_append, HM.out]
              have e1 : (qcells (offs f (q.take j))).length = m * 2 := by rw [qcells_length, HM.out]
              have e2 : 2 ≤ (cur.toList.drop (m * 2)).length := by
                have := HC2.out
                rw [List.length_drop, Array.length_toList]; omega
              rw [list_set2 _ _ _ _ _ e1 e2, List.drop_drop, pcells_append, pcells_one, List.length_singleton, show (m + 1) * 2 = m * 2 + 2 by omega])
          go_wp2_with fail
          go_roundw
          case rel => exact ⟨j + 1, m + 1, by omega, by go_num, by go_num, by omega, Lib.hid HE.out.1, HE.out.2⟩
          case measure => simp [intOf]; omega
      · obtain rfl : j = q.length := by omega
        obtain ⟨L1, p1, s1, c2, g1, t1⟩ := HD.out
        have hc2 : c2.size = cur.size := by
          have e : c2.toList.length = cur.toList.length := by rw [t1, List.length_append, qcells_length, List.length_drop, HM.out, Array.length_toList]; omega
          simpa using e
        obtain ⟨w5, hcl, hgr, c3, g3, hs3, ht3⟩ := clear_row g1 (m * 2) (q.length - m) (cap - m) (by omega) (by omega) 0
        have hmo : (offs f q).length = m := by rw [← HM.out, List.take_length]
        have HE : Hid (DfPost r L d f q w (.returned (.slice (some ⟨g, 0, none⟩) m cap)) w5) := Lib.hid (by
          refine ⟨_, L1, rfl, ?_, ?_, (s1.trans (GStep.row hgr)).step HQG.out, s1.qv, s1.l, s1.fb, fun b hb => ?_⟩
          · have h5 := p1.rowed g1 hgr
            rw [setAt_all] at h5
            unfold lastAt at h5
            rw [List.take_length] at h5
            exact h5
          · rw [hmo]
            refine ⟨by rw [qcells_length, hmo], .inr ⟨g, cap, c3, rfl, Nat.zero_le _, g3, by omega, by unfold maxLen; omega, by omega, ?_⟩⟩
            rw [ht3, t1, List.take_length, hmo]
            have e : m * 2 = (qcells (offs f q)).length := by rw [qcells_length, hmo]
            rw [e, List.take_left]
          · rw [HQG.out]
            simpa [Value.ownBlock] using hb)
        have HCL := Lib.hid hcl
        have hm0 : (0 : Int) ≤ (m : Int) := by omega
        have hm1 : (m : Int) < (q.length : Int) := by omega
        have hm2 : (m : Int) ≤ (cap : Int) := by omega
        have hm3 : ¬ cap = m := by omega
        clear p1 s1 g1 t1 hcl hgr g3 hs3 ht3 hc2 HD
        go_wp2_with fail
        rw [HCL.out]
        simp only [Result.andThen]
        rw [Oper.upon_value]
        go_wp2
        go_ret
        exact HE.out

end Go.Proofs.YtbpkcgkcamkggaaGreatDoor
