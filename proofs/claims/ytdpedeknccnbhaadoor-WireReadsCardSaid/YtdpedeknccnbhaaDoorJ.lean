/-
  The walk of WireWrites.
-/
import Derived.Test.YtdpedeknccnbhaaDoorI
import Derived.Test.YtdpedeknccnbhaaDoorR
import Derived.Deep.RegionHeld3
set_option linter.unusedVariables false
namespace Go.Proofs.YtdpedeknccnbhaaDoor
open Go.RowKit Go.Sort

/-- the Value as it is handed by value. -/
def vAgg (v : Val) (AL : Option Addr) (cL : Nat) (AT : Option Addr) (cT : Nat) : Array Value := #[.int .i64 v.K, .int .i64 v.N, .string v.S, .slice AL v.L.length cL, .slice AT v.T.length cT]

theorem sum_one (x : Nat) : [x].sum = x := by simp
theorem few_one {v : Val} (h : Few [v]) : vsz v ≤ 400 := by
  have := h.2
  simpa using this
theorem tsz_mem : ∀ (l : List ByteArray) (s : ByteArray), s ∈ l → s.size ≤ tsz l
  | [], _, h => by cases h
  | x :: l, s, h => by
    have e : tsz (x :: l) = x.size + tsz l := by simp [tsz]
    rcases List.mem_cons.1 h with rfl | h
    · omega
    · have := tsz_mem l s h; omega
theorem fl_str_len : ∀ (l : List ByteArray), (∀ s ∈ l, s.size ≤ 9223372036854775807) → (l.flatMap eStr).length ≤ tsz l + 21 * l.length
  | [], _ => by simp
  | x :: l, h => by
    have := fl_str_len l (fun s hs => h s (by simp [hs]))
    have e : tsz (x :: l) = x.size + tsz l := by simp [tsz]
    have h1 := (eText_len x.data.toList (by rw [size_list]; exact h x (by simp))).2
    rw [size_list] at h1
    have h2 : (eStr x).length ≤ x.size + 21 := h1
    simp only [List.flatMap_cons, List.length_append, List.length_cons]
    omega
/-- what few's yes gives for one value. -/
structure Small (v : Val) : Prop where
  s : v.S.size ≤ 400
  l : v.L.length ≤ 400
  t : v.T.length ≤ 400
  ts : ∀ x ∈ v.T, x.size ≤ 400
  tot : (v.T.flatMap eStr).length ≤ 100000
theorem small_of {v : Val} (h : vsz v ≤ 400) (hok : VOk v) : Small v := by
  unfold vsz at h
  have h2 := fl_str_len v.T hok.2.2.2.2.2.2
  exact ⟨by omega, by omega, by omega, fun x hx => by have := tsz_mem v.T x hx; omega, by omega⟩

/-! contracts that name the string -/
theorem of_StrIs {P : Program} {f : FuncId} {args : Array Value} {w : World} {L : List UInt8} (h : Calls P f args w (StrIs L w)) : Calls P f args w fun e w' => e = .returned (.string (bs L)) ∧ Below w.heap.size w w' :=
  h.mono fun e w' ⟨s, he, hs, hb⟩ => ⟨by rw [he, str_eq hs]; rfl, hb⟩

/-- what is kept along the road: the box, and all that was there at first. -/
def Road (B q : Nat) (cs : Array Value) (w0 w : World) : Prop := w.heap[q]? = some (.cells cs 25 (0, 0)) ∧ q < w.heap.size ∧ Below B w0 w
theorem Road.go {B q : Nat} {cs : Array Value} {w0 w w' : World} (h : Road B q cs w0 w) (hB : B ≤ w0.heap.size) (hb : Below w.heap.size w w') : Road B q cs w0 w' :=
  ⟨(hb.block q h.2.1).trans h.1, Nat.lt_of_lt_of_le h.2.1 hb.size, h.2.2.trans (hb.mono (Nat.le_trans hB h.2.2.size))⟩

theorem vals_one (w : World) (v : Val) (AL : Option Addr) (cL : Nat) (AT : Option Addr) (cT : Nat) (hL : Row w AL (v.L.map (Value.int .i64))) (hT : Row w AT (v.T.map Value.string)) :
    Vals (w.alloc (.cells #[.int .i64 v.K, .int .i64 v.N, .string v.S, .slice AL v.L.length cL, .slice AT v.T.length cT] 25)) (some ⟨w.heap.size, 0, none⟩) [v] := fun _ => by
  have hb : Below w.heap.size w (w.alloc (.cells #[.int .i64 v.K, .int .i64 v.N, .string v.S, .slice AL v.L.length cL, .slice AT v.T.length cT] 25)) := (Below.refl _ _).alloc (Nat.le_refl _) _
  have hn := heap_alloc_new w (.cells #[.int .i64 v.K, .int .i64 v.N, .string v.S, .slice AL v.L.length cL, .slice AT v.T.length cT] 25)
  refine ⟨_, _, rfl, by simp, fun j hj => ?_⟩
  obtain rfl : j = 0 := by simp at hj; omega
  exact ⟨by rw [Lib.cell_of_heap hn]; rfl, by rw [Lib.cell_of_heap hn]; rfl, by rw [Lib.cell_of_heap hn]; rfl, ⟨AL, cL, by rw [Lib.cell_of_heap hn]; rfl, hL.below hb⟩, ⟨AT, cT, by rw [Lib.cell_of_heap hn]; rfl, hT.below hb⟩⟩

/-- the cells of the box, what was there at first, at a later world. -/
def Kept (B : Nat) (v : Val) (AL : Option Addr) (cL : Nat) (AT : Option Addr) (cT : Nat) (w0 w : World) : Prop :=
  w.cell? ⟨B, 1, none⟩ = some (.int .i64 v.N) ∧ w.cell? ⟨B, 2, none⟩ = some (.string v.S) ∧ w.cell? ⟨B, 3, none⟩ = some (.slice AL v.L.length cL) ∧ w.cell? ⟨B, 4, none⟩ = some (.slice AT v.T.length cT) ∧ B < w.heap.size ∧ Hid (Below w0.heap.size w0 w)
theorem Kept.go {B : Nat} {v : Val} {AL : Option Addr} {cL : Nat} {AT : Option Addr} {cT : Nat} {w0 w w' : World} (h : Kept B v AL cL AT cT w0 w) (hb : Below w.heap.size w w') : Kept B v AL cL AT cT w0 w' := by
  obtain ⟨h1, h2, h3, h4, h5, h6⟩ := h
  exact ⟨(hb.cell (p := ⟨B, 1, none⟩) h5).trans h1, (hb.cell (p := ⟨B, 2, none⟩) h5).trans h2, (hb.cell (p := ⟨B, 3, none⟩) h5).trans h3, (hb.cell (p := ⟨B, 4, none⟩) h5).trans h4, Nat.lt_of_lt_of_le h5 hb.size, Lib.hid (h6.out.trans (hb.mono h6.out.size))⟩
theorem Kept.drewN {B : Nat} {v : Val} {AL : Option Addr} {cL : Nat} {AT : Option Addr} {cT : Nat} {w0 w : World} (h : Kept B v AL cL AT cT w0 w) (n : Nat) : Kept B v AL cL AT cT w0 (w.drewN n) := h.go (below_drewN (Below.refl _ _) n)

theorem row_kept {B : Nat} {v : Val} {AL : Option Addr} {cL : Nat} {AT : Option Addr} {cT : Nat} {w0 w : World} {A : Option Addr} {xs : List Value} (ht : Row w0 A xs) (h : Kept B v AL cL AT cT w0 w) : Row w A xs := ht.below h.2.2.2.2.2.out
theorem tab_kept {B : Nat} {v : Val} {AL : Option Addr} {cL : Nat} {AT : Option Addr} {cT : Nat} {w0 w : World} (ht : Tab w0) (h : Kept B v AL cL AT cT w0 w) : Tab w := ht.on h.2.2.2.2.2.out

set_option maxRecDepth 100000 in
set_option maxHeartbeats 4000000 in
theorem writes_walk (v : Val) (AL : Option Addr) (cL : Nat) (AT : Option Addr) (cT : Nat) (w : World) (hok : VOk v) (hL : Row w AL (v.L.map (Value.int .i64))) (hT : Row w AT (v.T.map Value.string)) (ht : Tab w) :
    Calls Tryd.prog 3 #[.agg #[.int .i64 v.K, .int .i64 v.N, .string v.S, .slice AL v.L.length cL, .slice AT v.T.length cT]] w fun e w' => e = .returned (.bool true) ∧ Below w.heap.size w w' := by
  have HL := Lib.hid hL; clear hL
  have HT := Lib.hid hT; clear hT
  have HO := Lib.hid hok; clear hok
  go_enter Tryd.func3, Tryd.ntmps3
  go_wp2_with fail
  have b1 : Below w.heap.size w (w.alloc (.cells #[.int .i64 v.K, .int .i64 v.N, .string v.S, .slice AL v.L.length cL, .slice AT v.T.length cT] 25)) := (Below.refl _ _).alloc (Nat.le_refl _) _
  refine (small_any _ (ht.on b1)).mono ?_
  rintro e w2 ⟨rfl, hb2⟩
  have r2 : Road w.heap.size w.heap.size #[.int .i64 v.K, .int .i64 v.N, .string v.S, .slice AL v.L.length cL, .slice AT v.T.length cT] w w2 :=
    ⟨(hb2.block _ (by simp)).trans (heap_alloc_new w _), Nat.lt_of_lt_of_le (by simp) hb2.size, b1.trans (hb2.mono (by simp))⟩
  have hbox := r2.1
  clear hb2 b1
  have R2 := Lib.hid r2; clear r2
  have k0 : w2.cell? ⟨w.heap.size, 0, none⟩ = some (.int .i64 v.K) := by rw [Lib.cell_of_heap hbox]; rfl
  have k1 : w2.cell? ⟨w.heap.size, 1, none⟩ = some (.int .i64 v.N) := by rw [Lib.cell_of_heap hbox]; rfl
  have k2 : w2.cell? ⟨w.heap.size, 2, none⟩ = some (.string v.S) := by rw [Lib.cell_of_heap hbox]; rfl
  have k3 : w2.cell? ⟨w.heap.size, 3, none⟩ = some (.slice AL v.L.length cL) := by rw [Lib.cell_of_heap hbox]; rfl
  have k4 : w2.cell? ⟨w.heap.size, 4, none⟩ = some (.slice AT v.T.length cT) := by rw [Lib.cell_of_heap hbox]; rfl
  clear hbox
  have hv := vals_one w2 v AL cL AT cT (HL.out.below R2.out.2.2) (HT.out.below R2.out.2.2)
  have hbx : Below w2.heap.size w2 (w2.alloc (.cells #[.int .i64 v.K, .int .i64 v.N, .string v.S, .slice AL v.L.length cL, .slice AT v.T.length cT] 25)) := (Below.refl _ _).alloc (Nat.le_refl _) _
  have KP : Kept w.heap.size v AL cL AT cT w w2 := ⟨k1, k2, k3, k4, R2.out.2.1, Lib.hid R2.out.2.2⟩
  have KP2 := Lib.hid (KP.go hbx)
  have HV := Lib.hid hv
  clear hv hbx KP
  go_wp2_with fail
  refine (few_any _ 1 [v] _ (by simp) (fun x hx => by obtain rfl := List.mem_singleton.1 hx; exact HO.out) HV.out).mono ?_
  rintro e w3 ⟨b, rfl, hfew, n, rfl⟩
  have K3 := Lib.hid (KP2.out.drewN n)
  clear KP2 HV k0 k1 k2 k3 k4
  cases b with
  | false =>
    go_wp2
    go_ret
    exact ⟨rfl, K3.out.2.2.2.2.2.out⟩
  | true =>
    have hsm := small_of (few_one (hfew rfl)) HO.out
    have HS := Lib.hid hsm
    clear hfew hsm
    generalize World.drewN _ n = w3 at *
    go_wp2
    have hN := Lib.hid HO.out.2.1
    have hSz : v.S.size ≤ 1099511627776 := by have := HS.out.s; omega
    have hTab := Lib.hid ht; clear ht
    go_region_held3 (fun w' => w'.cell? ⟨w.heap.size, 1, none⟩ = some (.int .i64 v.N) ∧ w'.cell? ⟨w.heap.size, 2, none⟩ = some (.string v.S) ∧ w'.cell? ⟨w.heap.size, 3, none⟩ = some (.slice AL v.L.length cL) ∧ w'.cell? ⟨w.heap.size, 4, none⟩ = some (.slice AT v.T.length cT) ∧ w.heap.size < w'.heap.size ∧ Hid (Below w.heap.size w w'))
      (first | exact K3.out | exact Kept.drewN K3.out 1 | exact Kept.go ‹_› ‹_›)
      (first
        | (go_at_call 11; refine (of_StrIs (num_any _ hN.out _ ?_)).mono ?_; (exact tab_kept (B := w.heap.size) (v := v) (AL := AL) (cL := cL) (AT := AT) (cT := cT) hTab.out (by assumption)); rintro e w' ⟨rfl, hb⟩)
        | (go_at_call 12; refine (of_StrIs (rNum_any _ hN.out _)).mono ?_; rintro e w' ⟨rfl, hb⟩)
        | (go_at_call 13; refine (of_StrIs (int_any _ hN.out _ ?_)).mono ?_; (exact tab_kept (B := w.heap.size) (v := v) (AL := AL) (cL := cL) (AT := AT) (cT := cT) hTab.out (by assumption)); rintro e w' ⟨rfl, hb⟩)
        | (go_at_call 14; refine (of_StrIs (rInt_any _ hN.out _)).mono ?_; rintro e w' ⟨rfl, hb⟩)
        | (go_at_call 15; refine (of_StrIs (text_any _ hSz _ ?_)).mono ?_; (exact tab_kept (B := w.heap.size) (v := v) (AL := AL) (cL := cL) (AT := AT) (cT := cT) hTab.out (by assumption)); rintro e w' ⟨rfl, hb⟩)
        | (go_at_call 16; refine (of_StrIs (rText_any _ hSz _)).mono ?_; rintro e w' ⟨rfl, hb⟩))
    clear K3
    go_wp2
    have K5 : Hid (Kept w.heap.size v AL cL AT cT w w') := Lib.hid (by assumption)
    clear hb
    have hvl : v.L.length ≤ 1099511627776 := by have := HS.out.l; omega
    have hvt : v.T.length ≤ 1099511627776 := by have := HS.out.t; omega
    have hin : Hid (∀ n ∈ v.L, In64 n) := Lib.hid HO.out.2.2.2.2.2.1
    have hts : Hid (∀ x ∈ v.T, x.size ≤ 1099511627776) := Lib.hid (fun x hx => by have := HS.out.ts x hx; omega)
    have htt : Hid ((v.T.flatMap eStr).length ≤ 100000000000000) := Lib.hid (by have := HS.out.tot; omega)
    go_region_held3 (fun w' => w'.cell? ⟨w.heap.size, 1, none⟩ = some (.int .i64 v.N) ∧ w'.cell? ⟨w.heap.size, 2, none⟩ = some (.string v.S) ∧ w'.cell? ⟨w.heap.size, 3, none⟩ = some (.slice AL v.L.length cL) ∧ w'.cell? ⟨w.heap.size, 4, none⟩ = some (.slice AT v.T.length cT) ∧ w.heap.size < w'.heap.size ∧ Hid (Below w.heap.size w w'))
      (first | exact K5.out | exact Kept.drewN K5.out 1 | exact Kept.go ‹_› ‹_›)
      (first
        | (go_at_call 17; refine (of_StrIs (nums_any _ _ _ _ ?_ hin.out hvl ?_)).mono ?_; (exact row_kept (B := w.heap.size) (v := v) (AL := AL) (cL := cL) (AT := AT) (cT := cT) HL.out (by assumption)); (exact tab_kept (B := w.heap.size) (v := v) (AL := AL) (cL := cL) (AT := AT) (cT := cT) hTab.out (by assumption)); rintro e w' ⟨rfl, hb⟩)
        | (go_at_call 18; refine (of_StrIs (rNums_any _ _ _ _ ?_ hin.out hvl)).mono ?_; (exact row_kept (B := w.heap.size) (v := v) (AL := AL) (cL := cL) (AT := AT) (cT := cT) HL.out (by assumption)); rintro e w' ⟨rfl, hb⟩)
        | (go_at_call 19; refine (of_StrIs (texts_any _ _ _ _ ?_ hts.out htt.out hvt ?_)).mono ?_; (exact row_kept (B := w.heap.size) (v := v) (AL := AL) (cL := cL) (AT := AT) (cT := cT) HT.out (by assumption)); (exact tab_kept (B := w.heap.size) (v := v) (AL := AL) (cL := cL) (AT := AT) (cT := cT) hTab.out (by assumption)); rintro e w' ⟨rfl, hb⟩)
        | (go_at_call 20; refine (of_StrIs (rTexts_any _ _ _ _ ?_ hts.out htt.out hvt)).mono ?_; (exact row_kept (B := w.heap.size) (v := v) (AL := AL) (cL := cL) (AT := AT) (cT := cT) HT.out (by assumption)); rintro e w' ⟨rfl, hb⟩))
    go_wp2
    have K6 : Kept w.heap.size v AL cL AT cT w w' := by assumption
    go_ret
    exact ⟨rfl, K6.2.2.2.2.2.out⟩

end Go.Proofs.YtdpedeknccnbhaaDoor
