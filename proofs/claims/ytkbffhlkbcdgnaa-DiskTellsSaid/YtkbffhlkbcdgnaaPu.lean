/-
  The contract of the reference's Put.
-/
import Derived.Test.YtkbffhlkbcdgnaaBy
set_option linter.unusedVariables false
namespace Go.Proofs.Ytkbffhlkbcdgnaa
open Go.RowKit

/-- the bytes behind k of the zeros. -/
def padB (s : List UInt8) (k : Nat) : List UInt8 := s ++ List.replicate k 0
/-- the bytes behind i of the stores. -/
def overB (P : List UInt8) (a : Nat) (t : List UInt8) (i : Nat) : List UInt8 := P.take a ++ t.take i ++ P.drop (a + i)
theorem padB_length (s : List UInt8) (k : Nat) : (padB s k).length = s.length + k := by simp [padB]
theorem padB_next (s : List UInt8) (k : Nat) : padB s k ++ [0] = padB s (k + 1) := by
  unfold padB
  rw [List.append_assoc, List.replicate_succ']
theorem overB_zero (P : List UInt8) (a : Nat) (t : List UInt8) : overB P a t 0 = P := by simp [overB]
theorem overB_next (P : List UInt8) (a : Nat) (t : List UInt8) (i : Nat) (hi : i < t.length) (hP : a + t.length ≤ P.length) : (overB P a t i).set (a + i) t[i] = overB P a t (i + 1) := by
  have h1 : (P.take a ++ t.take i).length = a + i := by simp; omega
  unfold overB
  rw [List.set_append_right _ _ (by omega), h1, Nat.sub_self]
  have h2 : P.drop (a + i) = P[a + i]'(by omega) :: P.drop (a + i + 1) := List.drop_eq_getElem_cons (by omega)
  rw [h2, List.set_cons_zero, ← Nat.add_assoc, List.take_succ_eq_append_getElem hi]
  simp only [List.append_assoc, List.singleton_append]
theorem overB_length (P : List UInt8) (a : Nat) (t : List UInt8) (i : Nat) (hi : i ≤ t.length) (hP : a + t.length ≤ P.length) : (overB P a t i).length = P.length := by
  unfold overB; simp; omega
theorem overB_end (s : List UInt8) (a : Nat) (t : List UInt8) (k : Nat) (ht : t ≠ []) (hk : s.length + k = max s.length (a + t.length)) : overB (padB s k) a t t.length = put s a t := by
  have hz : k = a + t.length - s.length := by omega
  rw [put, if_neg ht, overB, List.take_length, hz]
  congr 1
  rw [padB]
  by_cases c : a + t.length ≤ s.length
  · rw [show a + t.length - s.length = 0 by omega]; simp
  · rw [List.drop_append, List.drop_of_length_le (l := s) (by omega)]
    simp

theorem infoByte : (Try.prog.info? 5).map (fun i => (i.zero, i.size, i.bytes)) = some (some (.int .u8 0), 1, 1) := by kernel_rfl

set_option maxRecDepth 100000 in
set_option maxHeartbeats 4000000 in
theorem rPut_any (s : ByteArray) (a : Nat) (t : ByteArray) (w : World) (hs : s.size ≤ 1099511627776) (hb : a + t.size ≤ 1099511627776) :
    Calls Try.prog 53 #[.string s, .int .i64 (a : Int), .string t] w (StrIs (put s.data.toList a t.data.toList) w) := by
  obtain ⟨i0, hi0, hz0, hz1, hz2⟩ := info_parts infoByte
  have hcv := fun w s => run_bytes_of_string (P := Try.prog) w 9 48 5 s Try.underlying9 Try.underlying48 Try.underlying5
  by_cases h0 : t = ⟨#[]⟩
  · subst h0
    have HP : Hid (put s.data.toList a (⟨#[]⟩ : ByteArray).data.toList = s.data.toList) := Lib.hid (put_nil _ _)
    go_enter Try.func53, Try.ntmps53
    go_wp2
    go_ret
    rw [HP.out]
    exact ⟨s, rfl, rfl, Below.refl _ _⟩
  · have hbr := brow_fresh w s 0
    have HB := Lib.hid hbr
    clear hbr
    have htl : t.data.toList.length = t.size := Array.length_toList
    have hsl : s.data.toList.length = s.size := Array.length_toList
    have htn : t.data.toList ≠ [] := fun e => h0 (by
      obtain ⟨d⟩ := t
      simp only [Array.toList_eq_nil_iff] at e
      rw [e])
    have HTN := Lib.hid htn
    clear htn
    have hem : t.toList.isEmpty = false := by
      rw [ByteArray.toList_eq]
      cases h : t.data.toList with
      | nil => exact absurd h HTN.out
      | cons c r => rfl
    go_enter Try.func53, Try.ntmps53
    go_wp2
    have hbel : Below w.heap.size w ((w.alloc (.cells (bytesRow s (grownCap w s.size 0 5)) 5 ((bytesRow s (grownCap w s.size 0 5)).size, (bytesRow s (grownCap w s.size 0 5)).size + 1))).drew) := ((Below.refl _ _).alloc (Nat.le_refl _) _).drew
    go_loopw [7] (fun v wr => ∃ k : Nat, s.size + k ≤ max s.size (a + t.size) ∧ BRow wr w.heap.size v (padB s.data.toList k) ∧ Below w.heap.size w wr) (fun v _ => a + t.size - (match v with | .slice _ n _ => n | _ => 0))
    case atStart => exact ⟨0, by omega, by rw [show padB s.data.toList 0 = s.data.toList from by simp [padB]]; exact HB.out, hbel⟩
    case round =>
      obtain ⟨k, hk, hrow, hbb⟩ := hrel
      have hpl : (padB s.data.toList k).length = s.size + k := by rw [padB_length, hsl]
      obtain ⟨g, cap, hv, hg, hBg, hcell, hsp, hcap⟩ := hrow.parts
      rw [hpl] at hv hcap
      subst hv
      have HR := Lib.hid hrow
      have HC := Lib.hid hcell
      have HS := Lib.hid hsp
      have HPL := Lib.hid hpl
      clear hrow hcell hsp HB hbel hpl
      by_cases hlt : s.size + k < a + t.size
      · have hlt' : ((s.size + k : Nat) : Int) < (a : Int) + (t.size : Int) := by omega
        have hb1 : Below wr.heap.size wr (wr.alloc (.cells #[.int .u8 0] 5)) := (Below.refl _ _).alloc (Nat.le_refl _) _
        have HR1 := Lib.hid (HR.out.kept hb1)
        have HB1 := Lib.hid (hbb.trans (hb1.mono hbb.size))
        clear hb1
        go_wp2_with (at_builtin; refine wpList_append_arg _ rfl _ _ 48 rfl 5 i0 (.int .u8 0) 1 1 Try.underlying48 hi0 hz0 hz1 hz2 rfl (by decide) g 0 (s.size + k) cap (bcs (padB s.data.toList k)) rfl ?h1 ?h2 ⟨wr.heap.size, 0, none⟩ 1 1 [.int .u8 0] rfl rfl ?c1 ?c2 ?c3 ?c4 ?c5 ?room ?grow)
        case h1 => rw [bcs_length, HPL.out, Nat.mul_one]
        case h2 =>
          obtain ⟨g', cap', hv', _, _, hc', _⟩ := HR1.out.parts
          simp only [Value.slice.injEq, Option.some.injEq, Addr.mk.injEq, and_true] at hv'
          obtain ⟨rfl, _, rfl⟩ := hv'
          intro j u hj
          have hj2 : j < (padB s.data.toList k).length := by
            have := (List.getElem?_eq_some_iff.1 hj).1
            rwa [bcs_length] at this
          rw [Nat.zero_add, hc' j hj2, ← bcs_at _ j hj2, hj]
        case c1 =>
          intro j u hj
          match j, hj with
          | 0, hj => simp at hj; subst hj; simp [Addr.add]
        case c2 => intro u hu; simp at hu; subst hu; rfl
        case c3 =>
          obtain ⟨g', cap', hv', _, _, _, hs', _⟩ := HR1.out.parts
          simp only [Value.slice.injEq, Option.some.injEq, Addr.mk.injEq, and_true] at hv'
          obtain ⟨rfl, _, rfl⟩ := hv'
          intro hroom j hj
          simp at hj; subst hj
          exact hs' _ (by omega)
        case c4 => unfold maxLen; omega
        case c5 => omega
        case room =>
          intro hroom
          have HR2 : Hid (BRow ((wr.alloc (.cells #[.int .u8 0] 5)).setCells g (s.size + k) [.int .u8 0]) w.heap.size (.slice (some ⟨g, 0, none⟩) (s.size + k + 1) cap) (padB s.data.toList (k + 1))) := Lib.hid (by
            rw [← padB_next]
            exact HR1.out.room 0 hroom)
          have HB2 : Hid (Below w.heap.size w ((wr.alloc (.cells #[.int .u8 0] 5)).setCells g (s.size + k) [.int .u8 0])) := Lib.hid (Below.setCell (p := ⟨g, s.size + k, none⟩) HB1.out hBg (.int .u8 0))
          go_wp2
          go_roundw
          case rel => exact ⟨k + 1, by omega, HR2.out, HB2.out⟩
          case measure => simp; omega
        case grow =>
          intro hfull v' w4 hown hgr
          have HR2 : Hid (BRow w4 w.heap.size v' (padB s.data.toList (k + 1))) := Lib.hid (by
            rw [← padB_next]
            have hown2 : w4.ownsRow w.heap.size 5 1 v' (s.size + k + 1) (bcs (padB s.data.toList k ++ [0])) := by
              rw [bcs_append]
              exact World.ownsRow.mono hown (by have := hbb.size; simp; omega)
            exact BRow.of_own hown2 (Nat.succ_pos _))
          have HB2 : Hid (Below w.heap.size w w4) := Lib.hid (HB1.out.grown hgr (by have := hbb.size; simp; omega) (fun q hq => by cases hq))
          clear hown hgr
          go_wp2
          go_roundw
          case rel => exact ⟨k + 1, by omega, HR2.out, HB2.out⟩
          case measure =>
            obtain ⟨g', cap', hv', _⟩ := HR2.out.parts
            rw [padB_length, hsl] at hv'
            subst hv'
            simp; omega
      · have hlt' : (a : Int) + (t.size : Int) ≤ ((s.size + k : Nat) : Int) := by omega
        have hmx : s.data.toList.length + k = max s.data.toList.length (a + t.data.toList.length) := by rw [hsl, htl]; omega
        have HE := Lib.hid (overB_end s.data.toList a t.data.toList k HTN.out hmx)
        have HO : Hid (∀ j, j ≤ t.size → (overB (padB s.data.toList k) a t.data.toList j).length = s.size + k) := Lib.hid (fun j hj => by
          rw [overB_length _ _ _ _ (by omega) (by rw [HPL.out]; omega), HPL.out])
        have HNX : Hid (∀ j (h : j < t.data.toList.length), (overB (padB s.data.toList k) a t.data.toList j).set (a + j) t.data.toList[j] = overB (padB s.data.toList k) a t.data.toList (j + 1)) := Lib.hid (fun j hj =>
          overB_next _ _ _ _ hj (by rw [HPL.out]; omega))
        have HR0 : Hid (BRow wr w.heap.size (.slice (some ⟨g, 0, none⟩) (s.size + k) cap) (overB (padB s.data.toList k) a t.data.toList 0)) := Lib.hid (by rw [overB_zero]; exact HR.out)
        generalize overB (padB s.data.toList k) a t.data.toList = O at *
        clear hmx HR HC HS HPL
        go_wp2
        go_loopw [8] (fun i wx => ∃ j : Nat, j ≤ t.size ∧ i = .int .i64 j ∧ BRow wx w.heap.size (.slice (some ⟨g, 0, none⟩) (s.size + k) cap) (O j) ∧ Below w.heap.size w wx) (fun i _ => t.size - (intOf i).toNat)
        case atStart => exact ⟨0, Nat.zero_le _, rfl, HR0.out, hbb⟩
        case round =>
          obtain ⟨j, hj, rfl, hrow, hbx⟩ := hrel
          have ⟨g', cap', hv', hg', hB', hcell, hsp, hcap'⟩ := hrow.parts
          rw [HO.out j hj] at hv' hcap'
          simp only [Value.slice.injEq, Option.some.injEq, Addr.mk.injEq, and_true] at hv'
          obtain ⟨rfl, _, rfl⟩ := hv'
          have HR2 := Lib.hid hrow
          have HC2 := Lib.hid hcell
          have HS2 := Lib.hid hsp
          clear hrow hcell hsp HR0
          by_cases hlt2 : j < t.size
          · have hlen := HO.out j hj
            have hx1 : wr.cell? ⟨g, a + j, none⟩ = some (.int .u8 ((O j)[a + j]'(by omega)).toNat) := HC2.out (a + j) (by omega)
            have hx2 : wr.frozen? ⟨g, a + j, none⟩ = false := (HS2.out (a + j) (by omega)).2
            have hjl : j < t.data.toList.length := by omega
            have HR3 : Hid (BRow (wr.setCell ⟨g, a + j, none⟩ (.int .u8 (t[j].toNat : Int))) w.heap.size (.slice (some ⟨g, 0, none⟩) (s.size + k) cap) (O (j + 1))) := Lib.hid (by
              rw [← HNX.out j hjl]
              exact HR2.out.stored t.data.toList[j])
            have HB3 : Hid (Below w.heap.size w (wr.setCell ⟨g, a + j, none⟩ (.int .u8 (t[j].toNat : Int)))) := Lib.hid (Below.setCell (p := ⟨g, a + j, none⟩) hbx hBg _)
            go_wp2
            go_roundw
            case rel => exact ⟨j + 1, by omega, by go_num, HR3.out, HB3.out⟩
            case measure => simp [intOf]; omega
          · obtain rfl : j = t.size := by omega
            have hback := run_convert_bytes_back (P := Try.prog) wr 48 9 5 ⟨g, 0, none⟩ cap (O t.size) Try.underlying48 Try.underlying5 Try.underlying9 (fun q hq => by
              have := HC2.out q hq
              by_cases q0 : q = 0
              · subst q0; simpa [Addr.add] using this
              · simpa [Addr.add, q0] using this)
            rw [HO.out _ hj] at hback
            go_wp2
            go_ret
            refine ⟨_, rfl, ?_, hbx⟩
            rw [← HE.out, htl]

end Go.Proofs.Ytkbffhlkbcdgnaa
