/-
  What JournalTorn needs beside the texts of the other laws: the mathematics of a torn file, and a list of ints that grows beside a disk and its journal.
-/
import Derived.Test.YtncadnmoiiiahaaDoorJk
import Derived.Maps.AppendAt
set_option linter.unusedVariables false
set_option maxRecDepth 100000
namespace Go.Proofs.YtncadnmoiiiahaaDoor
open Go.RowKit W

theorem forms_pre {sure all : List (List UInt8)} (h : sure <+: all) : (forms sure).length ≤ (forms all).length := by
  obtain ⟨m, rfl⟩ := h
  rw [forms_append, List.length_append]; omega
/-- the first k records of l stand whole in C. -/
def Stands (l : List (List UInt8)) (C : List UInt8) (k : Nat) : Prop :=
  (forms (l.take k)).length ≤ C.length ∧ C.take (forms (l.take k)).length = (forms l).take (forms (l.take k)).length

theorem forms_take (l : List (List UInt8)) (k : Nat) : (forms l).take (forms (l.take k)).length = forms (l.take k) := by
  conv => lhs; arg 2; rw [← List.take_append_drop k l, forms_append]
  rw [List.take_left']
  rfl
theorem forms_take_le (l : List (List UInt8)) (k : Nat) : (forms (l.take k)).length ≤ (forms l).length :=
  forms_pre (List.take_prefix k l)
theorem stands_zero (l : List (List UInt8)) (C : List UInt8) : Stands l C 0 := by
  refine ⟨?_, ?_⟩ <;> simp [forms]

/-- the records of a damaged file: those that stand whole, if no more do. -/
theorem torn_many {l : List (List UInt8)} {C : List UInt8} (hl : ∀ t ∈ l, t.length ≤ 400) (hd : Dam C (forms l)) (hC : C.length ≤ maxI) {k : Nat} (hk : k ≤ l.length)
    (h1 : Stands l C k) (h2 : k < l.length → ¬ Stands l C (k + 1)) : recs C = l.take k := by
  obtain ⟨rest, hR⟩ := recs_spec C hC
  have e := hR.eq
  have hpre : recs C <+: l := by
    rw [e] at hd
    exact (dam_recs _ _ _ hl hd).1
  have hsure : l.take k <+: recs C := by
    refine whole_recs hC hR (sure := l.take k) (fun t ht => ?_) (X := C.drop (forms (l.take k)).length) ?_
    · have := hl t (List.mem_of_mem_take ht); omega
    · have h3 := h1.2
      rw [forms_take] at h3
      conv => lhs; rw [← List.take_append_drop (forms (l.take k)).length C, h3]
  have hlen := hsure.length_le
  rw [List.length_take, Nat.min_eq_left hk] at hlen
  have hrl := hpre.length_le
  have hR2 : recs C = l.take (recs C).length := List.prefix_iff_eq_take.1 hpre
  by_cases c : (recs C).length = k
  · rw [hR2, c]
  · exfalso
    refine h2 (by omega) ?_
    have h5 : l.take (k + 1) <+: recs C := by
      rw [hR2]
      exact List.take_prefix_take_left (by omega)
    obtain ⟨more, hm⟩ := h5
    have h6 : C = forms (l.take (k + 1)) ++ (forms more ++ rest) := by
      conv => lhs; rw [e, ← hm, forms_append, List.append_assoc]
    refine ⟨?_, ?_⟩
    · have := congrArg List.length h6
      rw [List.length_append] at this
      omega
    · rw [forms_take]
      conv => lhs; arg 2; rw [h6]
      rw [List.take_left']
      rfl

/-- a byte list that was put to 0 at some places, cut: damaged. -/
theorem dam_cut {A B : List UInt8} (hl : B.length = A.length) (h : ∀ i, i < B.length → bt B i = bt A i ∨ bt B i = 0) (n : Nat) : Dam (B.take n) A :=
  dam_of _ _ (by rw [List.length_take]; omega) fun i hi => by
    rw [List.length_take] at hi
    rw [bt_take, if_pos (by omega)]
    exact h i (by omega)

/-- one more byte is put to 0. -/
theorem zero_one {A B : List UInt8} {i : Nat} (hi : i < B.length) (hl : B.length = A.length) (h : ∀ j, j < B.length → bt B j = bt A j ∨ bt B j = 0) :
    (B.set i 0).length = A.length ∧ ∀ j, j < (B.set i 0).length → bt (B.set i 0) j = bt A j ∨ bt (B.set i 0) j = 0 := by
  refine ⟨by simp [hl], fun j hj => ?_⟩
  have hj' : j < B.length := by simpa using hj
  by_cases c : j = i
  · subst c
    right
    simp [bt, hj']
  · have e : bt (B.set i 0) j = bt B j := by
      simp [bt, Ne.symm c]
    rw [e]
    exact h j hj'


theorem and_one (z : Int) : bits .and .i64 z 1 = z % 2 := by
  unfold bits
  simp
  have e : (2 : Int) ^ IntKind.i64.bits = 18446744073709551616 := by decide
  have e2 : (2 : Nat) ^ IntKind.i64.bits = 18446744073709551616 := by decide
  rw [e, e2, show 1 % 18446744073709551616 = 1 from rfl, Nat.and_one_is_mod, IntKind.wrap_i64]
  omega
/-! ### records of at most 200 bytes, at most 8 -/
theorem forms_small : ∀ (l : List (List UInt8)), (∀ t ∈ l, t.length ≤ 200) → (forms l).length ≤ l.length * 241
  | [], _ => by simp [forms]
  | t :: l, h => by
    have h1 := h t List.mem_cons_self
    have h2 := form_len t (by omega)
    have ih := forms_small l (fun x hx => h x (List.mem_cons_of_mem _ hx))
    rw [forms_cons, List.length_append, List.length_cons]
    omega
/-! ### a list of ints of the law's own, beside a disk and a journal -/
def tcells (E : List Int) : List Value := E.map fun n => .int .i64 n
theorem DAt.kept2 {r : Nat} {L : Lay} {d : Dk} {n : Nat} {w w' : World} (h : DAt r L d n w) (hk : ∀ b, Own r L b ∨ L.kv.ownBlock = some b → b < w.heap.size → w'.heap[b]? = w.heap[b]?) : DAt r L d n w' := by
  obtain ⟨p, h1, h2, h3⟩ := h.ex
  exact ⟨⟨p, h1.kept fun b hb => hk b hb (h1.own_lt hb), h2, h3⟩, h.ok, h.q, h.armed, h.lost⟩
theorem DAt.kv_lt {r : Nat} {L : Lay} {d : Dk} {n : Nat} {w : World} (h : DAt r L d n w) {b : Nat} (hb : L.kv.ownBlock = some b) : b < w.heap.size := by
  obtain ⟨p, h1, _⟩ := h.ex
  exact h1.own_lt (.inr hb)
section
variable {W : World} {r : Nat} {L L' : Lay} {d d' : Dk} {n n' : Nat} {rj : Nat} {v v' : Value} {f : Int} {R R' : List (List UInt8)} {bad bad' : Bool} {w w' : World}
/-- Open where it succeeds, and where the list of what survives lies. -/
theorem hOpen_ok2 (h : Held W r L d n w) (hn : n ≤ 137438953472) (h64 : In64 f) (h0 : (jopen d f).2.1 = 0) : Calls Tryd.prog 7 #[.pointer (some ⟨r, 0, none⟩), .int .i64 f] w fun e w' =>
    ∃ L' rj v, e = .returned (.tuple #[.pointer (some ⟨rj, 0, none⟩), .int .i64 0]) ∧ JH W r L' (jopen d f).1 n rj v f (jopen d f).2.2 false w' ∧ KvS L L' w :=
  (jopen_any h.at_ hn h64).mono fun e w' ⟨L', hd, k, hor⟩ => by
    have hh := h.step hd k
    rcases hor with ⟨h1, h2⟩ | ⟨h1, rj, v, h2, hj, ho⟩
    · exact absurd h0 h1
    · refine ⟨L', rj, v, h2, ⟨hd, hj, hh.bel, fun b hb => ?_⟩, KvS.of k (Nat.le_refl _)⟩
      rcases hb with hb | hb
      · exact hh.own b hb
      · exact Nat.le_trans h.bel.size (ho b hb)
/-- Append whose result is known, likewise. -/
theorem hAppend2 (h : JH W r L d n rj v f R bad w) (hn : n ≤ 137438953472) (h64 : In64 f) (ht : Tab W) (s : ByteArray) (hs : s.size ≤ 30000) (hR : (forms R).length ≤ 16777216) {d2 : Dk} {c : Int} {R2 : List (List UInt8)} {b2 : Bool} (hj : jappend d f R bad s.data.toList = (d2, c, R2, b2)) :
    Calls Tryd.prog 8 #[.pointer (some ⟨rj, 0, none⟩), .string s] w fun e w' => e = .returned (.int .i64 c) ∧ ∃ L' v', JH W r L' d2 (n + s.size + 50) rj v' f R2 b2 w' ∧ KvS L L' w ∧ MStep (MO r L rj v) (MO r L' rj v') w w' := by
  have := jappend_any h.disk h.jrn hn h64 (ht.on h.bel) s (by omega) hR
  rw [hj] at this
  exact this.mono fun e w' ⟨he, L', v', hd, hj, kv, hs⟩ => ⟨he, L', v', h.to hd hj hs, kv, hs⟩

structure JE (W : World) (r : Nat) (L : Lay) (d : Dk) (n : Nat) (rj : Nat) (v : Value) (f : Int) (R : List (List UInt8)) (ve : Value) (E : List Int) (w : World) : Prop where
  jh : JH W r L d n rj v f R false w
  row : w.ownsRow W.heap.size 3 1 ve E.length (tcells E)
  free : ∀ g, ve.ownBlock = some g → ¬ MO r L rj v g ∧ L.kv.ownBlock ≠ some g
variable {ve ve' : Value} {E E' : List Int}
theorem JE.step (h : JE W r L d n rj v f R ve E w) (hj : JH W r L' d' n' rj v' f R' false w') (kv : KvS L L' w) (k : MStep (MO r L rj v) (MO r L' rj v') w w') : JE W r L' d' n' rj v' f R' ve E w' := by
  have hlt : ∀ g, ve.ownBlock = some g → g < w.heap.size := fun g hg => (h.row.lt g hg).2
  refine ⟨hj, ownKeep h.row fun b hb => k.fr.block b (hlt b hb) (h.free b hb).1, fun g hg => ⟨fun hm => ?_, fun hk => ?_⟩⟩
  · rcases k.own g hm with h1 | h1
    · exact (h.free g hg).1 h1
    · have := hlt g hg; omega
  · rcases kv g hk with h1 | h1
    · exact (h.free g hg).2 h1
    · have := hlt g hg; omega
theorem JE.below (h : JE W r L d n rj v f R ve E w) (hb : Below w.heap.size w w') : JE W r L d n rj v f R ve E w' :=
  h.step (h.jh.below hb) (KvS.refl _ _) (MStep.of_below hb)
theorem JE.append (h : JE W r L d n rj v f R ve E w) (hg : w.grownBy w' ve.ownBlock) (ho : w'.ownsRow W.heap.size 3 1 ve' E'.length (tcells E')) (hv : ve'.ownBlock = ve.ownBlock ∨ ve'.ownBlock = some w.heap.size) : JE W r L d n rj v f R ve' E' w' := by
  have hne : ∀ b, MO r L rj v b ∨ L.kv.ownBlock = some b → some b ≠ ve.ownBlock := fun b hb e => by
    rcases hb with hb | hb
    · exact (h.free b e.symm).1 hb
    · exact (h.free b e.symm).2 hb
  refine ⟨⟨h.jh.disk.kept2 fun b hb hl => hg.block b hl (hne b (hb.imp .inl id)), h.jh.jrn.kept fun b hb => hg.block b (h.jh.jrn.lt hb) (hne b (.inl (.inr hb))), h.jh.bel.grown hg h.jh.bel.size (fun k hk => (h.row.lt k hk).1), h.jh.own⟩, ho, fun g hgg => ?_⟩
  rcases hv with e | e
  · exact h.free g (e ▸ hgg)
  · rw [e] at hgg
    injection hgg with hgg
    subst hgg
    refine ⟨fun hm => ?_, fun hk => ?_⟩
    · have := h.jh.lt hm; omega
    · have := h.jh.disk.kv_lt hk; omega
end
/-- how the law's list of ends looks after k records. -/
def endsT (l : List (List UInt8)) (k : Nat) : List Int := (List.range k).map fun i => ((forms (l.take (i + 1))).length : Int)
theorem ends_len (l : List (List UInt8)) (k : Nat) : (endsT l k).length = k := by simp [endsT]
theorem ends_succ (l : List (List UInt8)) (k : Nat) : endsT l (k + 1) = endsT l k ++ [((forms (l.take (k + 1))).length : Int)] := by simp [endsT, List.range_succ]
theorem ends_at (l : List (List UInt8)) (k i : Nat) (h : i < k) : (tcells (endsT l k))[i]? = some (.int .i64 ((forms (l.take (i + 1))).length : Int)) := by
  unfold tcells endsT
  rw [List.getElem?_map, List.getElem?_map, List.getElem?_range h]
  rfl
theorem stands_next {l : List (List UInt8)} {C : List UInt8} {k : Nat} (h1 : (forms (l.take (k + 1))).length ≤ C.length) (h2 : C.take (forms (l.take (k + 1))).length = (forms l).take (forms (l.take (k + 1))).length) : Stands l C (k + 1) := ⟨h1, h2⟩
theorem infoByteT : (Tryd.prog.info? 5).map (fun i => (i.zero, i.size, i.bytes)) = some (some (.int .u8 0), 1, 1) := by kernel_rfl
theorem made_byte (n : Nat) : madeCells #[.int .u8 0] (n * 1) = (bcs (List.replicate n 0)).toArray := by
  apply Array.ext
  · simp [madeCells, bcs]
  · intro i h1 h2
    simp [madeCells, bcs, Nat.mod_one]
/-- 20001 bytes, as a string. -/
def bigS : ByteArray := ⟨(List.replicate 20001 0).toArray⟩
theorem bigS_size : bigS.size = 20001 := by
  show (List.replicate 20001 (0 : UInt8)).toArray.size = 20001
  simp
theorem mkByte (w : World) : Sem.run Tryd.prog (Instr.makeSlice 36 (.int .i64 20001) (.int .i64 20001)) w = .ok (.slice (some ⟨w.heap.size, 0, none⟩) 20001 20001) (w.alloc (.cells (bcs (List.replicate 20001 0)).toArray 5)) := by
  obtain ⟨i, hi, hz, hs, hb⟩ := info_parts infoByteT
  have hr := run_make (P := Tryd.prog) w 36 5 i _ (by first | rfl | kernel_rfl) hi hz .i64 .i64 20001 20001 (by omega) (Int.le_refl _) (by rw [hb]; omega) (by omega)
  rw [hs] at hr
  have e : ((20001 : Int).toNat) = 20001 := rfl
  rw [e] at hr
  simp only [Value.cells] at hr
  rw [made_byte] at hr
  exact hr
theorem backByte (w : World) (c : Nat) : (convert 36 9 (.slice (some ⟨w.heap.size, 0, none⟩) 20001 c)).run Tryd.prog (w.alloc (.cells (bcs (List.replicate 20001 0)).toArray 5)) = .ok (.string bigS) (w.alloc (.cells (bcs (List.replicate 20001 0)).toArray 5)) := by
  have h := run_convert_bytes_back (P := Tryd.prog) (w.alloc (.cells (bcs (List.replicate 20001 0)).toArray 5)) 36 9 5 ⟨w.heap.size, 0, none⟩ c (List.replicate 20001 0) Tryd.underlying36 Tryd.underlying5 Tryd.underlying9 (fun q hq => by
    have e : (⟨w.heap.size, 0, none⟩ : Addr).add q = ⟨w.heap.size, q, none⟩ := by unfold Addr.add; split <;> simp_all
    rw [e, Lib.cell_of_heap (heap_alloc_new w _)]
    have := bcs_at (List.replicate 20001 0) q hq
    simpa using this)
  rw [List.length_replicate] at h
  exact h
end Go.Proofs.YtncadnmoiiiahaaDoor
