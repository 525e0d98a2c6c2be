/-
  Layer 14: the contract of Text.
-/
import Derived.Test.YtfmocnbhahcgoaaDoorG6
set_option linter.unusedVariables false
set_option maxRecDepth 100000
namespace Go.Proofs.YtfmocnbhahcgoaaDoor
open Go.RowKit

def txs (L : List Tk) : List (List UInt8) := (L.filter fun x => x.k != 3).map (·.t)
def textM (L : List Tk) : List UInt8 := Lib.join (txs L) [32]
theorem txs_app (L M : List Tk) : txs (L ++ M) = txs L ++ txs M := by simp [txs]
theorem txs_next (L : List Tk) (k : Nat) (h : k < L.length) : txs (L.take (k + 1)) = txs (L.take k) ++ (if L[k].k = 3 then [] else [L[k].t]) := by
  rw [List.take_succ_eq_append_getElem h, txs_app]
  congr 1
  by_cases e : L[k].k = 3
  · have : (L[k].k != 3) = false := by simp [e]
    simp [txs, List.filter, e]
  · have : (L[k].k != 3) = true := by simp [e]
    simp [txs, List.filter, e, this]
theorem txs_len (L : List Tk) : (txs L).length ≤ L.length := by
  unfold txs; rw [List.length_map]; exact List.length_filter_le _ _
theorem join_le (l : List (List UInt8)) : (Lib.join l [32]).length ≤ l.length + Lib.lens l := by
  cases l with
  | nil => simp [Lib.join_nil]
  | cons x r => rw [Lib.join_length]; simp
theorem txs_lens (L : List Tk) (N : Nat) (h : ∀ x ∈ L, x.t.length ≤ N) : Lib.lens (txs L) ≤ L.length * N := by
  induction L with
  | nil => simp [txs, Lib.lens]
  | cons x L ih =>
    have h1 := ih (fun y hy => h y (by simp [hy]))
    have h2 := h x (by simp)
    by_cases e : x.k = 3
    · have h0 : (x.k != 3) = false := by simp [e]
      have : txs (x :: L) = txs L := by simp [txs, List.filter, h0]
      rw [this, List.length_cons, Nat.succ_mul]; omega
    · have h0 : (x.k != 3) = true := by simp [e]
      have : txs (x :: L) = x.t :: txs L := by simp [txs, List.filter, h0]
      rw [this, List.length_cons, Nat.succ_mul]
      have e3 : Lib.lens (x.t :: txs L) = x.t.length + Lib.lens (txs L) := by simp [Lib.lens]
      omega
theorem infoString : (Tryd.prog.info? 9).map (fun i => (i.zero, i.size, i.bytes)) = some (some (.string ⟨#[]⟩), 1, 16) := by kernel_rfl
def scells (T : List (List UInt8)) : List Value := T.map fun l => .string ⟨l.toArray⟩
theorem scells_len (T : List (List UInt8)) : (scells T).length = T.length := by simp [scells]
/-- own strings behind a world. -/
structure SWs (v : Value) (T : List (List UInt8)) (w wr : World) : Prop where
  own : wr.ownsRow w.heap.size 9 1 v T.length (scells T)
  bel : Below w.heap.size w wr
theorem own_st {w : World} {B : Nat} {v : Value} {T : List (List UInt8)} (h : w.ownsRow B 9 1 v T.length (scells T)) :
    (v = .slice none 0 0 ∧ T = []) ∨ ∃ g c, v = .slice (some ⟨g, 0, none⟩) T.length c ∧ g < w.heap.size ∧ T.length ≤ c ∧ ∀ (j : Nat) x, (T.map fun l => (⟨l.toArray⟩ : ByteArray))[j]? = some x → w.cell? ⟨g, 0 + j, none⟩ = some (.string x) := by
  obtain ⟨h1, h2⟩ := h
  rcases h2 with ⟨rfl, h0⟩ | ⟨g, cap, cur, rfl, hB, hg, h3, h4, h5, h6⟩
  · exact .inl ⟨rfl, List.eq_nil_of_length_eq_zero h0⟩
  · refine .inr ⟨g, cap, rfl, (Array.getElem?_eq_some_iff.1 hg).1, h3, fun j x hx => ?_⟩
    have hj : j < T.length := by
      have := (List.getElem?_eq_some_iff.1 hx).1
      simpa using this
    have hcell : ∀ i, i < T.length → w.cell? ⟨g, i, none⟩ = (scells T)[i]? := fun i hi => by
      rw [Lib.cell_of_heap hg, ← h6, List.getElem?_take, if_pos (by omega), Array.getElem?_toList]
    rw [Nat.zero_add, hcell j hj]
    rw [List.getElem?_map] at hx
    unfold scells
    rw [List.getElem?_map]
    cases hT : T[j]? with
    | none => rw [hT] at hx; cases hx
    | some l =>
      rw [hT] at hx
      injection hx with hx
      subst hx; rfl
theorem join_any (v : Value) (T : List (List UInt8)) (w wr : World) (h : SWs v T w wr) (hT : T.length ≤ 1000000) (hl : (Lib.join T [32]).length ≤ 1000000000) :
    Calls Tryd.prog 29 #[v, .string ⟨#[32]⟩] wr (StrIs (Lib.join T [32]) wr) := by
  rcases own_st h.own with ⟨rfl, rfl⟩ | ⟨g, c, rfl, hg, hc, hcell⟩
  · exact (Tryd.strings_Join_none none 0 ⟨#[32]⟩ wr).mono fun e w' ⟨he, hw⟩ => ⟨_, he, rfl, hw ▸ Below.refl _ _⟩
  · have e1 : (T.map fun l => (⟨l.toArray⟩ : ByteArray)).length = T.length := by simp
    have e2 : (T.map fun l => (⟨l.toArray⟩ : ByteArray)).map (·.data.toList) = T := by
      rw [List.map_map]; exact (List.map_congr_left (fun l _ => rfl)).trans (List.map_id T)
    have := Tryd.strings_Join g 0 c (T.map fun l => (⟨l.toArray⟩ : ByteArray)) ⟨#[32]⟩ wr hcell hg (by rw [e1]; omega) (by rw [e1]; exact hc) (by rw [e2]; show (Lib.join T [32]).length ≤ _; omega)
    rw [e1, e2] at this
    exact this.mono fun e w' ⟨he, hb⟩ => ⟨_, he, rfl, hb⟩
set_option maxHeartbeats 16000000 in
theorem text_any (A : Option Addr) (c : Nat) (L : List Tk) (w : World) (h : TkRow w A L) (hL : L.length ≤ 1000000) (ht : (textM L).length ≤ 1000000000) :
    Calls Tryd.prog 18 #[.slice A L.length c] w (StrIs (textM L) w) := by
  have HR := Lib.hid h; clear h
  have HT := Lib.hid ht; clear ht
  have HJ := Lib.hid join_any
  obtain ⟨i0, hi9, hz0, hz1, hz2⟩ := info_parts infoString
  have K0 : Hid (SWs (.slice none 0 0) (txs (L.take 0)) w w) := Lib.hid ⟨World.ownsRow_nil _ _ _ _, Below.refl _ _⟩
  go_enter Tryd.func18, Tryd.ntmps18
  go_wp2_with fail
  go_loopw [3, 8] (fun v i wr => ∃ (k : Nat) (v0 : Value), k ≤ L.length ∧ i = .int .i64 k ∧ v0 = v ∧ Hid (SWs v0 (txs (L.take k)) w wr)) (fun _ i _ => L.length - (intOf i).toNat)
  case atStart => exact ⟨0, _, Nat.zero_le _, rfl, rfl, K0⟩
  case round =>
    clear K0
    obtain ⟨k, v, hk, rfl, rfl, HK⟩ := hrel
    by_cases hlt : k < L.length
    · obtain ⟨b, o, rfl, hb, hc⟩ := HR.out (by omega)
      obtain ⟨x0, x1, x2, x3⟩ := (hc k hlt).below hb HK.out.bel
      have hbw : b < wr.heap.size := Nat.lt_of_lt_of_le hb HK.out.bel.size
      have hws := HK.out.bel.size
      have n0 : (0 : Int) ≤ (k : Int) := by omega
      have n1 : (k : Int) < (L.length : Int) := by omega
      have HN := Lib.hid (txs_next L k hlt)
      have hfl := txs_len (L.take k)
      rw [List.length_take] at hfl
      have hfl : (txs (L.take k)).length ≤ 1000000 := by omega
      clear hc
      generalize L[k] = x at *
      have HO : Hid (∀ w', Below wr.heap.size wr w' → w'.ownsRow w.heap.size 9 1 v (txs (L.take k)).length (scells (txs (L.take k)))) := Lib.hid (fun w' hb => own_go HK.out.own hb)
      generalize txs (L.take k) = F at *
      by_cases he : x.k = 3
      · have hee : (x.k == 3) = true := by rw [beq_iff_eq]; exact he
        have HX : Hid (∀ w', Below wr.heap.size wr w' → SWs v (txs (L.take (k + 1))) w w') := Lib.hid (fun w' hb => ⟨by rw [HN.out, if_pos he, List.append_nil]; exact HO.out _ hb, HK.out.bel.trans (hb.mono hws)⟩)
        clear HK HO HN
        go_wp2_with fail
        go_roundw
        case rel => exact ⟨k + 1, _, by omega, by go_num, rfl, Lib.hid (HX.out _ (by repeat' first | assumption | exact Below.refl _ _ | refine Below.setCell ?_ (by simp only; omega) _ | refine Below.alloc ?_ (by (try simp); (try omega)) _))⟩
        case measure => simp [intOf]; omega
      · have hne : (x.k == 3) = false := by rw [beq_eq_false_iff_ne]; exact he
        have HN2 : Hid (txs (L.take (k + 1)) = F ++ [x.t]) := Lib.hid (by rw [HN.out, if_neg he])
        clear HN
        go_wp2_with (at_builtin; go_loud (refine wpList_append_own _ rfl _ _ 47 rfl w.heap.size 9 i0 (.string ⟨#[]⟩) 1 16 Tryd.underlying47 hi9 hz0 hz1 hz2 rfl (by decide) _ _ _ rfl (HO.out _ ?bl) ⟨wr.heap.size + 1, 0, none⟩ 1 1 [.string ⟨x.t.toArray⟩] rfl rfl ?c1 ?c2 ?c3 ?c4 ?c5 ?_))
        case bl => repeat' first | assumption | exact Below.refl _ _ | refine Below.setCell ?_ (by simp only; omega) _ | refine Below.alloc ?_ (by (try simp); (try omega)) _
        case c1 =>
          intro t u ht
          match t, ht with
          | 0, ht => simp at ht; subst ht; simp [Addr.add]
        case c2 => intro u hu; simp only [List.mem_cons, List.not_mem_nil, or_false] at hu; rcases hu with rfl; rfl
        case c3 => unfold maxLen; omega
        case c4 => omega
        case c5 => simp; omega
        intro v' w4 hown' hgr _
        have HX : Hid (SWs v' (txs (L.take (k + 1))) w w4) := Lib.hid ⟨by rw [HN2.out, List.length_append, show scells (F ++ [x.t]) = scells F ++ [.string ⟨x.t.toArray⟩] by simp [scells]]; exact hown',
          Below.grown (by
            have := HK.out.bel
            repeat' first | assumption | refine Below.setCell ?_ (by simp only; omega) _ | refine Below.alloc ?_ (by (try simp); (try omega)) _) hgr (by simp; omega) (fun k hk => (HK.out.own.lt k hk).1)⟩
        clear hown' hgr HO HK HN2
        go_wp2_with fail
        go_roundw
        case rel => exact ⟨k + 1, _, by omega, by go_num, rfl, HX⟩
        case measure => simp [intOf]; omega
    · obtain rfl : k = L.length := by omega
      have HX : Hid (SWs v (txs L) w wr) := Lib.hid (by have := HK.out; rw [List.take_length] at this; exact this)
      have HC := Lib.hid (HJ.out v (txs L) w wr HX.out (Nat.le_trans (txs_len L) hL) HT.out)
      clear HK HJ
      go_wp2_with fail
      refine HC.out.mono ?_
      rintro e w5 ⟨s, rfl, hs, hb5⟩
      have HS := Lib.hid hs
      have HB := Lib.hid (HX.out.bel.trans (hb5.mono HX.out.bel.size))
      clear hs hb5 HC HX
      go_wp2_with fail
      go_ret
      exact ⟨s, rfl, HS.out, HB.out⟩
end Go.Proofs.YtfmocnbhahcgoaaDoor
