/-
  Rows of bytes that a conversion laid or an append made, and the contract of the reference's Put.
  The contract of the reference's Put.
  What the reference's writers leave, and the contract of its set.
-/
import Derived.Test.YtbpkcgkcamkggaaGreatDoorT901
import Derived.Laws.IdiomStrings
import Derived.ArgAppend
import Derived.Deep.Onto
import Derived.Lib.Builder
set_option linter.unusedVariables false
namespace Go.Proofs.YtbpkcgkcamkggaaGreatDoor
open Go.RowKit

def bcs (l : List UInt8) : List Value := l.map fun b => Value.int .u8 (b.toNat : Int)
theorem bcs_length (l : List UInt8) : (bcs l).length = l.length := by simp [bcs]
theorem bcs_append (l m : List UInt8) : bcs (l ++ m) = bcs l ++ bcs m := by simp [bcs]
theorem bcs_at (l : List UInt8) (j : Nat) (h : j < l.length) : (bcs l)[j]? = some (.int .u8 (l[j].toNat : Int)) := by simp [bcs, h]

/-- the call ends with a string of these bytes, and has only made memory. -/
def StrIs (L : List UInt8) (w : World) (e : Ending) (w' : World) : Prop := ∃ s : ByteArray, e = .returned (.string s) ∧ s.data.toList = L ∧ Below w.heap.size w w'

/-- a slice of bytes of the call's own, whose spare cells may be written. -/
def BRow (w : World) (B : Nat) (v : Value) (l : List UInt8) : Prop :=
  ∃ g cap cur z, v = .slice (some ⟨g, 0, none⟩) l.length cap ∧ B ≤ g ∧ w.heap[g]? = some (.cells cur 5 z) ∧ (z = (0, 0) ∨ cur.size ≤ z.1) ∧ l.length ≤ cap ∧ cap ≤ cur.size ∧ cur.toList.take l.length = bcs l

theorem brow_lt {w : World} {g : Nat} {o : Obj} (h : w.heap[g]? = some o) : g < w.heap.size := by
  rcases Nat.lt_or_ge g w.heap.size with hlt | hge
  · exact hlt
  · rw [Array.getElem?_eq_none hge] at h; cases h
theorem frozen_behind {w : World} {g : Nat} {cur : Array Value} {T : TypeId} {z : Nat × Nat} (h : w.heap[g]? = some (.cells cur T z)) (hz : z = (0, 0) ∨ cur.size ≤ z.1) {j : Nat} (hj : j < cur.size) : w.frozen? ⟨g, j, none⟩ = false := by
  obtain ⟨lo, hi⟩ := z
  simp only [World.frozen?, h]
  rcases hz with hz | hz
  · simp only [Prod.mk.injEq] at hz
    obtain ⟨rfl, rfl⟩ := hz
    simp
  · simp only at hz
    simp; omega

theorem BRow.parts {w : World} {B : Nat} {v : Value} {l : List UInt8} (h : BRow w B v l) :
    ∃ g cap, v = .slice (some ⟨g, 0, none⟩) l.length cap ∧ g < w.heap.size ∧ B ≤ g ∧ (∀ j (hj : j < l.length), w.cell? ⟨g, j, none⟩ = some (.int .u8 (l[j].toNat : Int))) ∧ (∀ j, j < cap → (w.cell? ⟨g, j, none⟩).isSome = true ∧ w.frozen? ⟨g, j, none⟩ = false) ∧ l.length ≤ cap := by
  obtain ⟨g, cap, cur, z, rfl, hB, hg, hz, hl, hc, ht⟩ := h
  refine ⟨g, cap, rfl, brow_lt hg, hB, fun j hj => ?_, fun j hj => ⟨?_, frozen_behind hg hz (by omega)⟩, hl⟩
  · rw [Lib.cell_of_heap hg, ← bcs_at l j hj, ← ht, List.getElem?_take, if_pos hj]; simp
  · rw [Lib.cell_of_heap hg]; simp; omega

theorem brow_fresh (w : World) (s : ByteArray) (n : Nat) : BRow (w.drew.alloc (.cells (bytesRow s (grownCap w s.size 0 5)) 5 ((bytesRow s (grownCap w s.size 0 5)).size, (bytesRow s (grownCap w s.size 0 5)).size + 1))) w.heap.size (.slice (some ⟨w.heap.size, 0, none⟩) s.size (grownCap w s.size 0 5)) s.data.toList := by
  have hge := grownCap_ge w s.size 0 5
  have hsz : s.data.toList.length = s.size := Array.length_toList
  generalize grownCap w s.size 0 5 = cap at *
  refine ⟨w.heap.size, cap, bytesRow s cap, _, by rw [hsz], Nat.le_refl _, heap_alloc_new w.drew _, .inr (Nat.le_refl _), by rw [hsz]; exact hge, ?_, ?_⟩
  · simp [bytesRow]; omega
  · rw [hsz]
    unfold bytesRow bcs
    rw [Array.toList_append, List.take_append_of_le_length (by simp), List.take_of_length_le (by simp)]
    simp

theorem BRow.of_own {w : World} {B n : Nat} {v : Value} {l : List UInt8} (h : w.ownsRow B 5 1 v n (bcs l)) (hn : 0 < n) : BRow w B v l := by
  obtain ⟨hl, hv⟩ := h
  rw [bcs_length, Nat.mul_one] at hl
  rcases hv with ⟨_, rfl⟩ | ⟨g, cap, cur, rfl, hB, hg, hc, _, hs, ht⟩
  · exact absurd hn (Nat.lt_irrefl _)
  · subst hl
    rw [Nat.mul_one] at hs ht
    exact ⟨g, cap, cur, (0, 0), rfl, hB, hg, .inl rfl, hc, by omega, ht⟩

theorem heap_set {w : World} {g j : Nat} {u : Value} {cur : Array Value} {T : TypeId} {z : Nat × Nat} (h : w.heap[g]? = some (.cells cur T z)) : (w.setCell ⟨g, j, none⟩ u).heap[g]? = some (.cells (cur.setIfInBounds j u) T z) := by
  simp [World.setCell, Array.getElem?_modify, h]

theorem BRow.stored {w : World} {B g n cap j : Nat} {l : List UInt8} (h : BRow w B (.slice (some ⟨g, 0, none⟩) n cap) l) (c : UInt8) :
    BRow (w.setCell ⟨g, j, none⟩ (.int .u8 (c.toNat : Int))) B (.slice (some ⟨g, 0, none⟩) n cap) (l.set j c) := by
  obtain ⟨g', cap', cur, z, hv, hB, hg, hz, hl, hc, ht⟩ := h
  simp only [Value.slice.injEq, Option.some.injEq, Addr.mk.injEq, and_true] at hv
  obtain ⟨rfl, rfl, rfl⟩ := hv
  refine ⟨g, cap, _, z, by rw [List.length_set], hB, heap_set hg, by simpa using hz, by simpa using hl, by simpa using hc, ?_⟩
  rw [List.length_set, Array.toList_setIfInBounds, List.take_set, ht]
  simp [bcs, List.map_set]
theorem BRow.room {w : World} {B g n cap : Nat} {l : List UInt8} (h : BRow w B (.slice (some ⟨g, 0, none⟩) n cap) l) (c : UInt8) (hr : n + 1 ≤ cap) :
    BRow (w.setCell ⟨g, n, none⟩ (.int .u8 (c.toNat : Int))) B (.slice (some ⟨g, 0, none⟩) (n + 1) cap) (l ++ [c]) := by
  obtain ⟨g', cap', cur, z, hv, hB, hg, hz, hl, hc, ht⟩ := h
  simp only [Value.slice.injEq, Option.some.injEq, Addr.mk.injEq, and_true] at hv
  obtain ⟨rfl, rfl, rfl⟩ := hv
  refine ⟨g, cap, _, z, by simp, hB, heap_set hg, by simpa using hz, by simpa using hr, by simpa using hc, ?_⟩
  rw [Array.toList_setIfInBounds, List.length_append, List.length_singleton, List.take_set, bcs_append, ← ht]
  have hlt : l.length < cur.toList.length := by simp; omega
  rw [List.take_succ_eq_append_getElem hlt, List.set_append_right _ _ (by simp; omega)]
  have e : l.length - (cur.toList.take l.length).length = 0 := by simp; omega
  rw [e]; rfl
theorem BRow.kept {w w' : World} {B : Nat} {v : Value} {l : List UInt8} (h : BRow w B v l) (hb : Below w.heap.size w w') : BRow w' B v l := by
  obtain ⟨g, cap, cur, z, hv, hB, hg, h2⟩ := h
  exact ⟨g, cap, cur, z, hv, hB, (hb.block g (brow_lt hg)).trans hg, h2⟩

end Go.Proofs.YtbpkcgkcamkggaaGreatDoor
namespace Go.Proofs.YtbpkcgkcamkggaaGreatDoor
open Go.RowKit

/-- the bytes behind k of the zeros. -/
def padB (s : List UInt8) (k : Nat) : List UInt8 := s ++ List.replicate k 0
/-- the bytes behind i of the stores. -/
def overB (P : List UInt8) (a : Nat) (t : List UInt8) (i : Nat) : List UInt8 := P.take a ++ t.take i ++ P.drop (a + i)
theorem padB_length (s : List UInt8) (k : Nat) : (padB s k).length = s.length + k := by simp [padB]
theorem padB_next (s : List UInt8) (k : Nat) : padB s k ++ [0] = padB s (k + 1) := by
  unfold padB
  rw [List.append_assoc, List.replicate_succ']
theorem overB_zero (P : List UInt8) (a : Nat) (t : List UInt8) : overB P a t 0 = P := by simp [overB]
theorem overB_next (P : List UInt8) (a : Nat) (t : List UInt8) (i : Nat) (hi : i < t.length) (hP : a + t.length ≤ P.length) : (overB P a t i).set (a + i) t[i] = overB P a t (i + 1) := by
  have h1 : (P.take a ++ t.take i).length = a + i := by simp; omega
  unfold overB
  rw [List.set_append_right _ _ (by omega), h1, Nat.sub_self]
  have h2 : P.drop (a + i) = P[a + i]'(by omega) :: P.drop (a + i + 1) := List.drop_eq_getElem_cons (by omega)
  rw [h2, List.set_cons_zero, ← Nat.add_assoc, List.take_succ_eq_append_getElem hi]
  simp only [List.append_assoc, List.singleton_append]
theorem overB_length (P : List UInt8) (a : Nat) (t : List UInt8) (i : Nat) (hi : i ≤ t.length) (hP : a + t.length ≤ P.length) : (overB P a t i).length = P.length := by
  unfold overB; simp; omega
theorem overB_end (s : List UInt8) (a : Nat) (t : List UInt8) (k : Nat) (ht : t ≠ []) (hk : s.length + k = max s.length (a + t.length)) : overB (padB s k) a t t.length = put s a t := by
  have hz : k = a + t.length - s.length := by omega
  rw [put, if_neg ht, overB, List.take_length, hz]
  congr 1
  rw [padB]
  by_cases c : a + t.length ≤ s.length
  · rw [show a + t.length - s.length = 0 by omega]; simp
  · rw [List.drop_append, List.drop_of_length_le (l := s) (by omega)]
    simp

theorem infoByte : (Tryz.prog.info? 5).map (fun i => (i.zero, i.size, i.bytes)) = some (some (.int .u8 0), 1, 1) := by kernel_rfl

set_option maxRecDepth 100000 in
set_option maxHeartbeats 4000000 in
theorem rPut_any (s : ByteArray) (a : Nat) (t : ByteArray) (w : World) (hs : s.size ≤ 1099511627776) (hb : a + t.size ≤ 1099511627776) :
    Calls Tryz.prog 71 #[.string s, .int .i64 (a : Int), .string t] w (StrIs (put s.data.toList a t.data.toList) w) := by
  obtain ⟨i0, hi0, hz0, hz1, hz2⟩ := info_parts infoByte
  have hcv := fun w s => run_bytes_of_string (P := Tryz.prog) w 9 62 5 s Tryz.underlying9 Tryz.underlying62 Tryz.underlying5
  by_cases h0 : t = ⟨#[]⟩
  · subst h0
    have HP : Hid (put s.data.toList a (⟨#[]⟩ : ByteArray).data.toList = s.data.toList) := Lib.hid (put_nil _ _)
    go_enter Tryz.func71, Tryz.ntmps71
    go_wp2
    go_ret
    rw [HP.out]
    exact ⟨s, rfl, rfl, Below.refl _ _⟩
  · have hbr := brow_fresh w s 0
    have HB := Lib.hid hbr
    clear hbr
    have htl : t.data.toList.length = t.size := Array.length_toList
    have hsl : s.data.toList.length = s.size := Array.length_toList
    have htn : t.data.toList ≠ [] := fun e => h0 (by
      obtain ⟨d⟩ := t
      simp only [Array.toList_eq_nil_iff] at e
      rw [e])
    have HTN := Lib.hid htn
    clear htn
    have hem : t.toList.isEmpty = false := by
      rw [ByteArray.toList_eq]
      cases h : t.data.toList with
      | nil => exact absurd h HTN.out
      | cons c r => rfl
    go_enter Tryz.func71, Tryz.ntmps71
    go_wp2
    have hbel : Below w.heap.size w ((w.alloc (.cells (bytesRow s (grownCap w s.size 0 5)) 5 ((bytesRow s (grownCap w s.size 0 5)).size, (bytesRow s (grownCap w s.size 0 5)).size + 1))).drew) := ((Below.refl _ _).alloc (Nat.le_refl _) _).drew
    go_loopw [7] (fun v wr => ∃ k : Nat, s.size + k ≤ max s.size (a + t.size) ∧ BRow wr w.heap.size v (padB s.data.toList k) ∧ Below w.heap.size w wr) (fun v _ => a + t.size - (match v with | .slice _ n _ => n | _ => 0))
    case atStart => exact ⟨0, by omega, by rw [show padB s.data.toList 0 = s.data.toList from by simp [padB]]; exact HB.out, hbel⟩
    case round =>
      obtain ⟨k, hk, hrow, hbb⟩ := hrel
      have hpl : (padB s.data.toList k).length = s.size + k := by rw [padB_length, hsl]
      obtain ⟨g, cap, hv, hg, hBg, hcell, hsp, hcap⟩ := hrow.parts
      rw [hpl] at hv hcap
      subst hv
      have HR := Lib.hid hrow
      have HC := Lib.hid hcell
      have HS := Lib.hid hsp
      have HPL := Lib.hid hpl
      clear hrow hcell hsp HB hbel hpl
      by_cases hlt : s.size + k < a + t.size
      · have hlt' : ((s.size + k : Nat) : Int) < (a : Int) + (t.size : Int) := by omega
        have hb1 : Below wr.heap.size wr (wr.alloc (.cells #[.int .u8 0] 5)) := (Below.refl _ _).alloc (Nat.le_refl _) _
        have HR1 := Lib.hid (HR.out.kept hb1)
        have HB1 := Lib.hid (hbb.trans (hb1.mono hbb.size))
        clear hb1
        go_wp2_with (at_builtin; refine wpList_append_arg _ rfl _ _ 62 rfl 5 i0 (.int .u8 0) 1 1 Tryz.underlying62 hi0 hz0 hz1 hz2 rfl (by decide) g 0 (s.size + k) cap (bcs (padB s.data.toList k)) rfl ?h1 ?h2 ⟨wr.heap.size, 0, none⟩ 1 1 [.int .u8 0] rfl rfl ?c1 ?c2 ?c3 ?c4 ?c5 ?room ?grow)
        case h1 => rw [bcs_length, HPL.out, Nat.mul_one]
        case h2 =>
          obtain ⟨g', cap', hv', _, _, hc', _⟩ := HR1.out.parts
          simp only [Value.slice.injEq, Option.some.injEq, Addr.mk.injEq, and_true] at hv'
          obtain ⟨rfl, _, rfl⟩ := hv'
          intro j u hj
          have hj2 : j < (padB s.data.toList k).length := by
            have := (List.getElem?_eq_some_iff.1 hj).1
            rwa [bcs_length] at this
          rw [Nat.zero_add, hc' j hj2, ← bcs_at _ j hj2, hj]
        case c1 =>
          intro j u hj
          match j, hj with
          | 0, hj => simp at hj; subst hj; simp [Addr.add]
        case c2 => intro u hu; simp at hu; subst hu; rfl
        case c3 =>
          obtain ⟨g', cap', hv', _, _, _, hs', _⟩ := HR1.out.parts
          simp only [Value.slice.injEq, Option.some.injEq, Addr.mk.injEq, and_true] at hv'
          obtain ⟨rfl, _, rfl⟩ := hv'
          intro hroom j hj
          simp at hj; subst hj
          exact hs' _ (by omega)
        case c4 => unfold maxLen; omega
        case c5 => omega
        case room =>
          intro hroom
          have HR2 : Hid (BRow ((wr.alloc (.cells #[.int .u8 0] 5)).setCells g (s.size + k) [.int .u8 0]) w.heap.size (.slice (some ⟨g, 0, none⟩) (s.size + k + 1) cap) (padB s.data.toList (k + 1))) := Lib.hid (by
            rw [← padB_next]
            exact HR1.out.room 0 hroom)
          have HB2 : Hid (Below w.heap.size w ((wr.alloc (.cells #[.int .u8 0] 5)).setCells g (s.size + k) [.int .u8 0])) := Lib.hid (Below.setCell (p := ⟨g, s.size + k, none⟩) HB1.out hBg (.int .u8 0))
          go_wp2
          go_roundw
          case rel => exact ⟨k + 1, by omega, HR2.out, HB2.out⟩
          case measure => simp; omega
        case grow =>
          intro hfull v' w4 hown hgr
          have HR2 : Hid (BRow w4 w.heap.size v' (padB s.data.toList (k + 1))) := Lib.hid (by
            rw [← padB_next]
            have hown2 : w4.ownsRow w.heap.size 5 1 v' (s.size + k + 1) (bcs (padB s.data.toList k ++ [0])) := by
              rw [bcs_append]
              exact World.ownsRow.mono hown (by have := hbb.size; simp; omega)
            exact BRow.of_own hown2 (Nat.succ_pos _))
          have HB2 : Hid (Below w.heap.size w w4) := Lib.hid (HB1.out.grown hgr (by have := hbb.size; simp; omega) (fun q hq => by cases hq))
          clear hown hgr
          go_wp2
          go_roundw
          case rel => exact ⟨k + 1, by omega, HR2.out, HB2.out⟩
          case measure =>
            obtain ⟨g', cap', hv', _⟩ := HR2.out.parts
            rw [padB_length, hsl] at hv'
            subst hv'
            simp; omega
      · have hlt' : (a : Int) + (t.size : Int) ≤ ((s.size + k : Nat) : Int) := by omega
        have hmx : s.data.toList.length + k = max s.data.toList.length (a + t.data.toList.length) := by rw [hsl, htl]; omega
        have HE := Lib.hid (overB_end s.data.toList a t.data.toList k HTN.out hmx)
        have HO : Hid (∀ j, j ≤ t.size → (overB (padB s.data.toList k) a t.data.toList j).length = s.size + k) := Lib.hid (fun j hj => by
          rw [overB_length _ _ _ _ (by omega) (by rw [HPL.out]; omega), HPL.out])
        have HNX : Hid (∀ j (h : j < t.data.toList.length), (overB (padB s.data.toList k) a t.data.toList j).set (a + j) t.data.toList[j] = overB (padB s.data.toList k) a t.data.toList (j + 1)) := Lib.hid (fun j hj =>
          overB_next _ _ _ _ hj (by rw [HPL.out]; omega))
        have HR0 : Hid (BRow wr w.heap.size (.slice (some ⟨g, 0, none⟩) (s.size + k) cap) (overB (padB s.data.toList k) a t.data.toList 0)) := Lib.hid (by rw [overB_zero]; exact HR.out)
        generalize overB (padB s.data.toList k) a t.data.toList = O at *
        clear hmx HR HC HS HPL
        go_wp2
        go_loopw [8] (fun i wx => ∃ j : Nat, j ≤ t.size ∧ i = .int .i64 j ∧ BRow wx w.heap.size (.slice (some ⟨g, 0, none⟩) (s.size + k) cap) (O j) ∧ Below w.heap.size w wx) (fun i _ => t.size - (intOf i).toNat)
        case atStart => exact ⟨0, Nat.zero_le _, rfl, HR0.out, hbb⟩
        case round =>
          obtain ⟨j, hj, rfl, hrow, hbx⟩ := hrel
          have ⟨g', cap', hv', hg', hB', hcell, hsp, hcap'⟩ := hrow.parts
          rw [HO.out j hj] at hv' hcap'
          simp only [Value.slice.injEq, Option.some.injEq, Addr.mk.injEq, and_true] at hv'
          obtain ⟨rfl, _, rfl⟩ := hv'
          have HR2 := Lib.hid hrow
          have HC2 := Lib.hid hcell
          have HS2 := Lib.hid hsp
          clear hrow hcell hsp HR0
          by_cases hlt2 : j < t.size
          · have hlen := HO.out j hj
            have hx1 : wr.cell? ⟨g, a + j, none⟩ = some (.int .u8 ((O j)[a + j]'(by omega)).toNat) := HC2.out (a + j) (by omega)
            have hx2 : wr.frozen? ⟨g, a + j, none⟩ = false := (HS2.out (a + j) (by omega)).2
            have hjl : j < t.data.toList.length := by omega
            have HR3 : Hid (BRow (wr.setCell ⟨g, a + j, none⟩ (.int .u8 (t[j].toNat : Int))) w.heap.size (.slice (some ⟨g, 0, none⟩) (s.size + k) cap) (O (j + 1))) := Lib.hid (by
              rw [← HNX.out j hjl]
              exact HR2.out.stored t.data.toList[j])
            have HB3 : Hid (Below w.heap.size w (wr.setCell ⟨g, a + j, none⟩ (.int .u8 (t[j].toNat : Int)))) := Lib.hid (Below.setCell (p := ⟨g, a + j, none⟩) hbx hBg _)
            go_wp2
            go_roundw
            case rel => exact ⟨j + 1, by omega, by go_num, HR3.out, HB3.out⟩
            case measure => simp [intOf]; omega
          · obtain rfl : j = t.size := by omega
            have hback := run_convert_bytes_back (P := Tryz.prog) wr 62 9 5 ⟨g, 0, none⟩ cap (O t.size) Tryz.underlying62 Tryz.underlying5 Tryz.underlying9 (fun q hq => by
              have := HC2.out q hq
              by_cases q0 : q = 0
              · subst q0; simpa [Addr.add] using this
              · simpa [Addr.add, q0] using this)
            rw [HO.out _ hj] at hback
            go_wp2
            go_ret
            refine ⟨_, rfl, ?_, hbx⟩
            rw [← HE.out, htl]

end Go.Proofs.YtbpkcgkcamkggaaGreatDoor
namespace Go.Proofs.YtbpkcgkcamkggaaGreatDoor
open Go.RowKit

/-- block k is none of those that the reference writes to: its disk, and its list of pending sectors. -/
def NonRef (w : World) (k : Nat) : Prop := ∀ c z, w.heap[k]? ≠ some (.cells c 68 z) ∧ w.heap[k]? ≠ some (.cells c 84 z)
/-- below B, and in blocks that are not the reference's, nothing has turned. -/
structure RFr (B : Nat) (w w' : World) : Prop where
  os : w'.os = w.os
  tape : w'.tape = w.tape
  output : w'.output = w.output
  size : w.heap.size ≤ w'.heap.size
  block : ∀ k, k < w.heap.size → k < B ∨ NonRef w k → w'.heap[k]? = w.heap[k]?

theorem RFr.refl (B : Nat) (w : World) : RFr B w w := ⟨rfl, rfl, rfl, Nat.le_refl _, fun _ _ _ => rfl⟩
theorem RFr.trans {B : Nat} {a b c : World} (h : RFr B a b) (k : RFr B b c) : RFr B a c :=
  ⟨k.os.trans h.os, k.tape.trans h.tape, k.output.trans h.output, Nat.le_trans h.size k.size, fun i hi hn => by
    have h1 := h.block i hi hn
    refine (k.block i (Nat.lt_of_lt_of_le hi h.size) ?_).trans h1
    rcases hn with hn | hn
    · exact .inl hn
    · right; intro c z; rw [h1]; exact hn c z⟩
theorem RFr.of_below {B : Nat} {w w' : World} (h : Below w.heap.size w w') : RFr B w w' := ⟨h.os, h.tape, h.output, h.size, fun k hk _ => h.block k hk⟩
theorem RFr.of_disk {B r : Nat} {w w' : World} {c : Array Value} {z : Nat × Nat} (h : w.grownBy w' (some r)) (hB : B ≤ r) (hr : w.heap[r]? = some (.cells c 68 z)) : RFr B w w' :=
  ⟨h.os, h.tape, h.output, h.size, fun k hk hn => h.block k hk (fun e => by
    injection e with e
    subst e
    rcases hn with hn | hn
    · omega
    · exact (hn c z).1 hr)⟩
theorem RFr.below {B : Nat} {w w' : World} (h : RFr B w w') : B ≤ w.heap.size → Below B w w' := fun hB => ⟨h.os, h.tape, h.output, h.size, fun k hk => h.block k (by omega) (.inl hk)⟩
theorem grown_one (w : World) (r i : Nat) (u : Value) : w.grownBy (w.setCell ⟨r, i, none⟩ u) (some r) :=
  ⟨rfl, rfl, rfl, by simp [World.setCell], fun k _ hk => Below.heap_setCell _ _ _ _ (fun e => hk (by simp [e]))⟩

theorem own_le {w : World} {B B' e size n : Nat} {v : Value} {xs : List Value} (h : w.ownsRow B e size v n xs) (hb : B' ≤ B) : w.ownsRow B' e size v n xs :=
  ⟨h.1, h.2.imp id fun ⟨g, cap, cur, h1, h2, h3⟩ => ⟨g, cap, cur, h1, Nat.le_trans hb h2, h3⟩⟩
/-- a row stays owned where its block stays. -/
theorem own_keep {w w' : World} {B e size n : Nat} {v : Value} {xs : List Value} (h : w.ownsRow B e size v n xs) (hk : ∀ (g : Nat) (c : Array Value) (z : Nat × Nat), w.heap[g]? = some (Obj.cells c e z) → w'.heap[g]? = w.heap[g]?) : w'.ownsRow B e size v n xs :=
  ⟨h.1, h.2.imp id fun ⟨g, cap, cur, h1, h2, h3, h4⟩ => ⟨g, cap, cur, h1, h2, (hk g _ _ h3).trans h3, h4⟩⟩

theorem RAt.below {r B : Nat} {s : RSt} {w w' : World} (h : RAt r B s w) (hb : Below w.heap.size w w') : RAt r B s w' := by
  obtain ⟨F, Q, K, h1, h2, h3, h4, h5⟩ := h
  refine ⟨F, Q, K, (hb.block r (brow_lt h1)).trans h1, own_keep h2 ?_, own_keep h3 ?_, own_keep h4 ?_, h5⟩
  all_goals intro g c z hg; exact hb.block g (brow_lt hg)
/-- a store of a new list of files. -/
theorem RAt.setF {r B : Nat} {s : RSt} {w : World} (h : RAt r B s w) {fl : List RFile} {v : Value} (hv : w.ownsRow B 86 3 v fl.length (fcells fl)) : RAt r B { s with fl := fl } (w.setCell ⟨r, 0, none⟩ v) := by
  obtain ⟨F, Q, K, h1, h2, h3, h4, h5⟩ := h
  have hne : ∀ {T : TypeId}, T ≠ 68 → ∀ (g : Nat) (c : Array Value) (z : Nat × Nat), w.heap[g]? = some (Obj.cells c T z) → (w.setCell ⟨r, 0, none⟩ v).heap[g]? = w.heap[g]? := by
    intro T hT g c z hg
    refine Below.heap_setCell _ _ _ _ (fun e => ?_)
    simp only at e
    subst e
    rw [h1] at hg
    simp only [Option.some.injEq, Obj.cells.injEq] at hg
    exact hT hg.2.1.symm
  exact ⟨v, Q, K, heap_set h1, own_keep hv (hne (by decide)), own_keep h3 (hne (by decide)), own_keep h4 (hne (by decide)), h5⟩

theorem infoFile : (Tryz.prog.info? 86).map (fun i => (i.zero, i.size, i.bytes)) = some (some (.agg #[.int .i64 0, .string ⟨#[]⟩, .string ⟨#[]⟩]), 3, 40) := by kernel_rfl
theorem infoSector : (Tryz.prog.info? 84).map (fun i => (i.zero, i.size, i.bytes)) = some (some (.agg #[.int .i64 0, .int .i64 0]), 2, 16) := by kernel_rfl

theorem fcells_append (l m : List RFile) : fcells (l ++ m) = fcells l ++ fcells m := by simp [fcells]
theorem fcells_one (x : RFile) : fcells [x] = [.int .i64 x.1, .string x.2.1, .string x.2.2] := rfl
/-- the files among the first k that are not f. -/
def others (l : List RFile) (f : Int) (k : Nat) : List RFile := (l.take k).filter fun y => !(y.1 == f)
theorem others_skip (l : List RFile) (f : Int) (k : Nat) (hk : k < l.length) (h : l[k].1 = f) : others l f (k + 1) = others l f k := by
  unfold others
  rw [List.take_succ_eq_append_getElem hk, List.filter_append]; simp [h]
theorem others_take (l : List RFile) (f : Int) (k : Nat) (hk : k < l.length) (h : l[k].1 ≠ f) : others l f (k + 1) = others l f k ++ [l[k]] := by
  unfold others
  rw [List.take_succ_eq_append_getElem hk, List.filter_append]; simp [h]
theorem others_len (l : List RFile) (f : Int) (k : Nat) : (others l f k).length ≤ k := by
  unfold others
  refine Nat.le_trans (List.length_filter_le _ _) ?_
  rw [List.length_take]; omega
theorem others_all (l : List RFile) (x : RFile) : others l x.1 l.length ++ [x] = rset l x := by
  unfold others rset
  rw [List.take_length]

set_option maxRecDepth 100000 in
set_option maxHeartbeats 4000000 in
theorem rset_any (r B : Nat) (s : RSt) (x : RFile) (w : World) (h : RAt r B s w) (hl : s.fl.length ≤ 1099511627776) :
    Calls Tryz.prog 72 #[.pointer (some ⟨r, 0, none⟩), fval x] w fun e w' => e = .returned (.tuple #[]) ∧ RAt r B { s with fl := rset s.fl x } w' ∧ RFr B w w' := by
  obtain ⟨i0, hi9, hz0, hz1, hz2⟩ := info_parts infoFile
  have hr := h.lt
  obtain ⟨Fv, Qv, Kv, c0, _, _, _, _, _, hz, hF, _, _⟩ := h.cells
  obtain ⟨A, cap, rfl, hA⟩ := own_parts hF
  have hBr : B ≤ r := by obtain ⟨_, _, _, _, _, _, _, h5⟩ := h; exact h5
  have HA := Lib.hid hA
  have HH := Lib.hid h
  clear hA hF h
  unfold fval
  go_enter Tryz.func72, Tryz.ntmps72
  go_wp2
  have hfr : Below (w.heap.size + 1) (w.alloc (.cells #[.int .i64 x.1, .string x.2.1, .string x.2.2] 86)) (w.alloc (.cells #[.int .i64 x.1, .string x.2.1, .string x.2.2] 86)) := Below.refl _ _
  have hsz1 : (w.alloc (.cells #[.int .i64 x.1, .string x.2.1, .string x.2.2] 86)).heap.size = w.heap.size + 1 := by simp
  have hb0 : Below w.heap.size w (w.alloc (.cells #[.int .i64 x.1, .string x.2.1, .string x.2.2] 86)) := (Below.refl _ _).alloc (Nat.le_refl _) _
  have hx0 : (w.alloc (.cells #[.int .i64 x.1, .string x.2.1, .string x.2.2] 86)).cell? ⟨w.heap.size, 0, none⟩ = some (.int .i64 x.1) := by rw [Lib.cell_of_heap (heap_alloc_new w _)]; rfl
  have hx1 : (w.alloc (.cells #[.int .i64 x.1, .string x.2.1, .string x.2.2] 86)).cell? ⟨w.heap.size, 1, none⟩ = some (.string x.2.1) := by rw [Lib.cell_of_heap (heap_alloc_new w _)]; rfl
  have hx2 : (w.alloc (.cells #[.int .i64 x.1, .string x.2.1, .string x.2.2] 86)).cell? ⟨w.heap.size, 2, none⟩ = some (.string x.2.2) := by rw [Lib.cell_of_heap (heap_alloc_new w _)]; rfl
  generalize w.alloc (.cells #[.int .i64 x.1, .string x.2.1, .string x.2.2] 86) = w1 at *
  go_loopw [4, 5] (fun v i wr => ∃ k : Nat, k ≤ s.fl.length ∧ i = .int .i64 k ∧ wr.ownsRow (w.heap.size + 1) 86 3 v (others s.fl x.1 k).length (fcells (others s.fl x.1 k)) ∧ Below (w.heap.size + 1) w1 wr) (fun _ i _ => s.fl.length - (intOf i).toNat)
  case atStart => exact ⟨0, Nat.zero_le _, rfl, World.ownsRow_nil _ _ _ _, hfr⟩
  case round =>
    obtain ⟨k, hk, rfl, hown, hbr⟩ := hrel
    have hk1 := others_len s.fl x.1 k
    have d0 : wr.cell? ⟨r, 0, none⟩ = some (.slice A s.fl.length cap) := (hbr.cell (p := ⟨r, 0, none⟩) (by simp only; omega)).trans ((hb0.cell (p := ⟨r, 0, none⟩) hr).trans c0)
    have d1 : wr.cell? ⟨w.heap.size, 0, none⟩ = some (.int .i64 x.1) := (hbr.cell (p := ⟨w.heap.size, 0, none⟩) (by simp only; omega)).trans hx0
    have d2 : wr.cell? ⟨w.heap.size, 1, none⟩ = some (.string x.2.1) := (hbr.cell (p := ⟨w.heap.size, 1, none⟩) (by simp only; omega)).trans hx1
    have d3 : wr.cell? ⟨w.heap.size, 2, none⟩ = some (.string x.2.2) := (hbr.cell (p := ⟨w.heap.size, 2, none⟩) (by simp only; omega)).trans hx2
    have HBB := Lib.hid hbr
    have HB0 := Lib.hid hb0
    clear hx0 hx1 hx2 hfr hb0 hbr
    by_cases hlt : k < s.fl.length
    · obtain ⟨g, rfl, hg, hc⟩ := HA.out (by omega)
      obtain ⟨e0, e1, e2⟩ := fcells_at s.fl k hlt
      have kk : ∀ j u, j < s.fl.length * 3 → (fcells s.fl)[j]? = some u → wr.cell? ⟨g, j, none⟩ = some u := fun j u hj hu =>
        (HBB.out.cell (p := ⟨g, j, none⟩) (by simp only; omega)).trans ((HB0.out.cell (p := ⟨g, j, none⟩) hg).trans ((hc j hj).trans hu))
      have k0 : wr.cell? ⟨g, k * 3, none⟩ = some (.int .i64 s.fl[k].1) := kk _ _ (by omega) e0
      have k1 : wr.cell? ⟨g, k * 3 + 1, none⟩ = some (.string s.fl[k].2.1) := kk _ _ (by omega) e1
      have k2 : wr.cell? ⟨g, k * 3 + 2, none⟩ = some (.string s.fl[k].2.2) := kk _ _ (by omega) e2
      clear hc e0 e1 e2 kk
      have hi0 : (0 : Int) ≤ (k : Int) := by omega
      have hi1 : (k : Int) < (s.fl.length : Int) := by omega
      by_cases he : s.fl[k].1 = x.1
      · have HO := Lib.hid (others_skip s.fl x.1 k hlt he)
        have hne : (s.fl[k].1 != x.1) = false := by simpa using he
        go_wp2
        go_quiet (fail)
        go_wp2
        go_roundw
        case rel => exact ⟨k + 1, by omega, by go_num, by rw [HO.out]; exact hown, HBB.out.trans ⟨rfl, rfl, rfl, Nat.le_refl _, fun _ _ => rfl⟩⟩
        case measure => simp [intOf]; omega
      · have HO := Lib.hid (others_take s.fl x.1 k hlt he)
        have hne : (s.fl[k].1 != x.1) = true := by simpa using he
        go_wp2
        go_quiet (fail)
        go_wp2_with (at_builtin; refine wpList_append_own _ rfl _ _ 65 rfl (w.heap.size + 1) 86 i0 (.agg #[.int .i64 0, .string ⟨#[]⟩, .string ⟨#[]⟩]) 3 40 Tryz.underlying65 hi9 hz0 hz1 hz2 rfl (by decide) _ _ _ rfl (hown.alloc _) ⟨wr.heap.size, 0, none⟩ 1 1 (fcells [s.fl[k]]) rfl rfl ?c1 ?c2 ?c3 ?c4 ?c5 ?_)
        case c1 =>
          intro j u hj
          rw [fcells_one] at hj
          have hnew : ((wr.drewN nq).alloc (.cells #[.int .i64 s.fl[k].1, .string s.fl[k].2.1, .string s.fl[k].2.2] 86)).heap[wr.heap.size]? = some (.cells #[.int .i64 s.fl[k].1, .string s.fl[k].2.1, .string s.fl[k].2.2] 86 (0, 0)) := heap_alloc_new (wr.drewN nq) _
          match j, hj with
          | 0, hj => simp at hj; subst hj; simp [Addr.add, Lib.cell_of_heap hnew]
          | 1, hj => simp at hj; subst hj; simp [Addr.add, Lib.cell_of_heap hnew]
          | 2, hj => simp at hj; subst hj; simp [Addr.add, Lib.cell_of_heap hnew]
          | j + 3, hj => simp at hj
        case c2 => intro u hu; rw [fcells_one] at hu; simp at hu; rcases hu with rfl | rfl | rfl <;> rfl
        case c3 => unfold maxLen; omega
        case c4 => omega
        case c5 => have := HBB.out.size; simp; omega
        intro v' w4 hown' hgr _
        have HOW : Hid (w4.ownsRow (w.heap.size + 1) 86 3 v' (others s.fl x.1 (k + 1)).length (fcells (others s.fl x.1 (k + 1)))) := Lib.hid (by
          rw [HO.out, fcells_append, List.length_append]; exact hown')
        have HB4 : Hid (Below (w.heap.size + 1) w1 w4) := Lib.hid (Below.grown (w := (wr.drewN nq).alloc (.cells #[.int .i64 s.fl[k].1, .string s.fl[k].2.1, .string s.fl[k].2.2] 86)) ((HBB.out.trans (⟨rfl, rfl, rfl, Nat.le_refl _, fun _ _ => rfl⟩ : Below (w.heap.size + 1) wr (wr.drewN nq))).alloc (by have := HBB.out.size; simp; omega) _) hgr (by have := HBB.out.size; simp; omega) (fun q hq => (hown.lt q hq).1))
        clear hown' hgr
        go_wp2
        go_roundw
        case rel => exact ⟨k + 1, by omega, by go_num, HOW.out, HB4.out⟩
        case measure => simp [intOf]; omega
    · obtain rfl : k = s.fl.length := by omega
      have HO := Lib.hid (others_all s.fl x)
      go_wp2_with (at_builtin; revert hr)
      intro hr
      refine wpList_append_own _ rfl _ _ 65 rfl (w.heap.size + 1) 86 i0 (.agg #[.int .i64 0, .string ⟨#[]⟩, .string ⟨#[]⟩]) 3 40 Tryz.underlying65 hi9 hz0 hz1 hz2 rfl (by decide) _ _ _ rfl (hown.alloc _) ⟨wr.heap.size, 0, none⟩ 1 1 (fcells [x]) rfl rfl ?c1 ?c2 ?c3 ?c4 ?c5 ?_
      case c1 =>
        intro j u hj
        rw [fcells_one] at hj
        have hnew : (wr.alloc (.cells #[.int .i64 x.1, .string x.2.1, .string x.2.2] 86)).heap[wr.heap.size]? = some (.cells #[.int .i64 x.1, .string x.2.1, .string x.2.2] 86 (0, 0)) := heap_alloc_new wr _
        match j, hj with
        | 0, hj => simp at hj; subst hj; simp [Addr.add, Lib.cell_of_heap hnew]
        | 1, hj => simp at hj; subst hj; simp [Addr.add, Lib.cell_of_heap hnew]
        | 2, hj => simp at hj; subst hj; simp [Addr.add, Lib.cell_of_heap hnew]
        | j + 3, hj => simp at hj
      case c2 => intro u hu; rw [fcells_one] at hu; simp at hu; rcases hu with rfl | rfl | rfl <;> rfl
      case c3 => unfold maxLen; omega
      case c4 => omega
      case c5 => have := HBB.out.size; simp; omega
      intro v' w4 hown' hgr _
      obtain ⟨A', cap', rfl, _⟩ := own_parts hown'
      have hB4 : Below (w.heap.size + 1) w1 w4 := Below.grown (w := wr.alloc (.cells #[.int .i64 x.1, .string x.2.1, .string x.2.2] 86)) (HBB.out.alloc (by have := HBB.out.size; omega) _) hgr (by have := HBB.out.size; simp; omega) (fun q hq => (hown.lt q hq).1)
      have hB5 : Below w.heap.size w w4 := HB0.out.trans (hB4.mono (Nat.le_succ _))
      have HR4 := Lib.hid (HH.out.below hB5)
      have HOW : Hid (w4.ownsRow B 86 3 (.slice A' ((others s.fl x.1 s.fl.length).length + 1) cap') (rset s.fl x).length (fcells (rset s.fl x))) := Lib.hid (by
        rw [← HO.out, fcells_append, List.length_append]
        exact own_le hown' (by omega))
      obtain ⟨_, _, _, q0, _, _, _, _, _, qz, _⟩ := HR4.out.cells
      have qz0 := qz 0
      have HB5 := Lib.hid hB5
      clear hown' hgr hB4 hB5 qz
      go_wp2
      go_end0
      obtain ⟨F, Q, K, h1, _⟩ := HR4.out
      exact ⟨rfl, HR4.out.setF HOW.out, (RFr.of_below HB5.out).trans (RFr.of_disk (grown_one _ _ _ _) hBr h1)⟩

end Go.Proofs.YtbpkcgkcamkggaaGreatDoor
