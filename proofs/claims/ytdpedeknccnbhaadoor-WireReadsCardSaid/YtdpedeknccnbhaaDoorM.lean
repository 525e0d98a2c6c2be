/-
  Contracts of the laws' own helpers (3): write.
-/
import Derived.Test.YtdpedeknccnbhaaDoorJ
set_option linter.unusedVariables false
namespace Go.Proofs.YtdpedeknccnbhaaDoor
open Go.RowKit Go.Sort

/-- a Value's encoding, by its kind. -/
def enc (v : Val) : List UInt8 :=
  if kindOf v.K = 0 then eInt (numberOf v.N) else if kindOf v.K = 1 then eInt v.N else if kindOf v.K = 2 then eText v.S.data.toList
  else if kindOf v.K = 3 then eList eInt v.L else eList eStr v.T

theorem kind_range (K : Int) : kindOf K = 0 ∨ kindOf K = 1 ∨ kindOf K = 2 ∨ kindOf K = 3 ∨ kindOf K = 4 := by
  have h1 := Int.lt_tmod_of_pos K (show (0 : Int) < 5 by decide)
  have h2 := Int.tmod_lt_of_pos K (show (0 : Int) < 5 by decide)
  unfold kindOf
  split <;> omega
theorem number_in {n : Int} (h : In64 n) : 0 ≤ numberOf n ∧ In64 (numberOf n) := by
  unfold In64 at h ⊢
  unfold numberOf
  split <;> omega
theorem enc0 {v : Val} (h : kindOf v.K = 0) : enc v = eInt (numberOf v.N) := if_pos h
theorem enc1 {v : Val} (h : kindOf v.K = 1) : enc v = eInt v.N := by unfold enc; rw [if_neg (by omega), if_pos h]
theorem enc2 {v : Val} (h : kindOf v.K = 2) : enc v = eText v.S.data.toList := by unfold enc; rw [if_neg (by omega), if_neg (by omega), if_pos h]
theorem enc3 {v : Val} (h : kindOf v.K = 3) : enc v = eList eInt v.L := by unfold enc; rw [if_neg (by omega), if_neg (by omega), if_neg (by omega), if_pos h]
theorem enc4 {v : Val} (h : kindOf v.K = 4) : enc v = eList eStr v.T := by unfold enc; rw [if_neg (by omega), if_neg (by omega), if_neg (by omega), if_neg (by omega)]

theorem kind_is (K : Int) (c : Int) (hc : kindOf K = c) (x1 x2 x3 x4 : Value) (h : In64 K) (w : World) :
    Calls Tryd.prog 23 #[.agg #[.int .i64 K, x1, x2, x3, x4]] w fun e w' => e = .returned (.int .i64 c) ∧ Below w.heap.size w w' := hc ▸ kind_any K x1 x2 x3 x4 h w

theorem eNum_nn {n : Int} (h : 0 ≤ n) : eNum n = eInt n := if_neg (by omega)

/-- the box of a Value that was handed by value. -/
theorem box_kept (w : World) (v : Val) (AL : Option Addr) (cL : Nat) (AT : Option Addr) (cT : Nat) :
    Kept w.heap.size v AL cL AT cT w (w.alloc (.cells #[.int .i64 v.K, .int .i64 v.N, .string v.S, .slice AL v.L.length cL, .slice AT v.T.length cT] 25)) := by
  have hn := heap_alloc_new w (.cells #[.int .i64 v.K, .int .i64 v.N, .string v.S, .slice AL v.L.length cL, .slice AT v.T.length cT] 25)
  exact ⟨by rw [Lib.cell_of_heap hn]; rfl, by rw [Lib.cell_of_heap hn]; rfl, by rw [Lib.cell_of_heap hn]; rfl, by rw [Lib.cell_of_heap hn]; rfl, by simp, Lib.hid ((Below.refl _ _).alloc (Nat.le_refl _) _)⟩

set_option maxRecDepth 100000 in
set_option maxHeartbeats 2000000 in
theorem write0_any (v : Val) (AL : Option Addr) (cL : Nat) (AT : Option Addr) (cT : Nat) (w : World) (hok : VOk v) (hs : Small v) (hL : Row w AL (v.L.map (Value.int .i64))) (hT : Row w AT (v.T.map Value.string)) (ht : Tab w) (hk : kindOf v.K = 0) :
    Calls Tryd.prog 42 #[.agg #[.int .i64 v.K, .int .i64 v.N, .string v.S, .slice AL v.L.length cL, .slice AT v.T.length cT]] w (StrIs (enc v) w) := by
  have HL := Lib.hid hL
  have HT := Lib.hid hT
  have HO := Lib.hid hok
  have HS := Lib.hid hs
  have HE := Lib.hid (enc0 hk)
  have HK := Lib.hid hk
  clear hL hT hok hs hk
  go_enter Tryd.func42, Tryd.ntmps42
  have KB := Lib.hid (box_kept w v AL cL AT cT)
  go_wp2_with fail
  refine (kind_is v.K 0 HK.out _ _ _ _ HO.out.1 _).mono ?_
  rintro e w2 ⟨rfl, hb⟩
  have K2 := Lib.hid (KB.out.go hb)
  obtain ⟨k1, k2, k3, k4, _, _⟩ := K2.out
  clear hb KB
  go_wp2_with fail
  refine (number_any _ HO.out.2.1 _).mono ?_
  rintro e w3 ⟨rfl, rfl⟩
  have hn := number_in HO.out.2.1
  have HN := Lib.hid hn; clear hn
  go_wp2_with fail
  refine (num_any _ HN.out.2 _ (tab_kept ht K2.out)).mono ?_
  rintro e w4 ⟨s, rfl, hs, hb4⟩
  have HX := Lib.hid hs; clear hs
  have K4 := K2.out.go hb4
  go_wp2
  go_ret
  exact ⟨_, rfl, by rw [HX.out, HE.out, eNum_nn HN.out.1], K4.2.2.2.2.2.out⟩

set_option maxRecDepth 100000 in
set_option maxHeartbeats 2000000 in
theorem write1_any (v : Val) (AL : Option Addr) (cL : Nat) (AT : Option Addr) (cT : Nat) (w : World) (hok : VOk v) (hs : Small v) (hL : Row w AL (v.L.map (Value.int .i64))) (hT : Row w AT (v.T.map Value.string)) (ht : Tab w) (hk : kindOf v.K = 1) :
    Calls Tryd.prog 42 #[.agg #[.int .i64 v.K, .int .i64 v.N, .string v.S, .slice AL v.L.length cL, .slice AT v.T.length cT]] w (StrIs (enc v) w) := by
  have HL := Lib.hid hL
  have HT := Lib.hid hT
  have HO := Lib.hid hok
  have HS := Lib.hid hs
  have HE := Lib.hid (enc1 hk)
  have HK := Lib.hid hk
  clear hL hT hok hs hk
  go_enter Tryd.func42, Tryd.ntmps42
  have KB := Lib.hid (box_kept w v AL cL AT cT)
  go_wp2_with fail
  refine (kind_is v.K 1 HK.out _ _ _ _ HO.out.1 _).mono ?_
  rintro e w2 ⟨rfl, hb⟩
  have K2 := Lib.hid (KB.out.go hb)
  obtain ⟨k1, k2, k3, k4, _, _⟩ := K2.out
  clear hb KB
  go_wp2_with fail
  refine (int_any _ HO.out.2.1 _ (tab_kept ht K2.out)).mono ?_
  rintro e w4 ⟨s, rfl, hs, hb4⟩
  have HX := Lib.hid hs; clear hs
  have K4 := K2.out.go hb4
  go_wp2
  go_ret
  exact ⟨_, rfl, by rw [HX.out, HE.out], K4.2.2.2.2.2.out⟩

set_option maxRecDepth 100000 in
set_option maxHeartbeats 2000000 in
theorem write2_any (v : Val) (AL : Option Addr) (cL : Nat) (AT : Option Addr) (cT : Nat) (w : World) (hok : VOk v) (hs : Small v) (hL : Row w AL (v.L.map (Value.int .i64))) (hT : Row w AT (v.T.map Value.string)) (ht : Tab w) (hk : kindOf v.K = 2) :
    Calls Tryd.prog 42 #[.agg #[.int .i64 v.K, .int .i64 v.N, .string v.S, .slice AL v.L.length cL, .slice AT v.T.length cT]] w (StrIs (enc v) w) := by
  have HL := Lib.hid hL
  have HT := Lib.hid hT
  have HO := Lib.hid hok
  have HS := Lib.hid hs
  have HE := Lib.hid (enc2 hk)
  have HK := Lib.hid hk
  clear hL hT hok hs hk
  go_enter Tryd.func42, Tryd.ntmps42
  have KB := Lib.hid (box_kept w v AL cL AT cT)
  go_wp2_with fail
  refine (kind_is v.K 2 HK.out _ _ _ _ HO.out.1 _).mono ?_
  rintro e w2 ⟨rfl, hb⟩
  have K2 := Lib.hid (KB.out.go hb)
  obtain ⟨k1, k2, k3, k4, _, _⟩ := K2.out
  clear hb KB
  go_wp2_with fail
  refine (text_any _ (by have := HS.out.s; omega) _ (tab_kept ht K2.out)).mono ?_
  rintro e w4 ⟨s, rfl, hs, hb4⟩
  have HX := Lib.hid hs; clear hs
  have K4 := K2.out.go hb4
  go_wp2
  go_ret
  exact ⟨_, rfl, by rw [HX.out, HE.out], K4.2.2.2.2.2.out⟩

set_option maxRecDepth 100000 in
set_option maxHeartbeats 2000000 in
theorem write3_any (v : Val) (AL : Option Addr) (cL : Nat) (AT : Option Addr) (cT : Nat) (w : World) (hok : VOk v) (hs : Small v) (hL : Row w AL (v.L.map (Value.int .i64))) (hT : Row w AT (v.T.map Value.string)) (ht : Tab w) (hk : kindOf v.K = 3) :
    Calls Tryd.prog 42 #[.agg #[.int .i64 v.K, .int .i64 v.N, .string v.S, .slice AL v.L.length cL, .slice AT v.T.length cT]] w (StrIs (enc v) w) := by
  have HL := Lib.hid hL
  have HT := Lib.hid hT
  have HO := Lib.hid hok
  have HS := Lib.hid hs
  have HE := Lib.hid (enc3 hk)
  have HK := Lib.hid hk
  clear hL hT hok hs hk
  go_enter Tryd.func42, Tryd.ntmps42
  have KB := Lib.hid (box_kept w v AL cL AT cT)
  go_wp2_with fail
  refine (kind_is v.K 3 HK.out _ _ _ _ HO.out.1 _).mono ?_
  rintro e w2 ⟨rfl, hb⟩
  have K2 := Lib.hid (KB.out.go hb)
  obtain ⟨k1, k2, k3, k4, _, _⟩ := K2.out
  clear hb KB
  go_wp2_with fail
  refine (nums_any _ _ _ _ (row_kept HL.out K2.out) HO.out.2.2.2.2.2.1 (by have := HS.out.l; omega) (tab_kept ht K2.out)).mono ?_
  rintro e w4 ⟨s, rfl, hs, hb4⟩
  have HX := Lib.hid hs; clear hs
  have K4 := K2.out.go hb4
  go_wp2
  go_ret
  exact ⟨_, rfl, by rw [HX.out, HE.out], K4.2.2.2.2.2.out⟩

set_option maxRecDepth 100000 in
set_option maxHeartbeats 2000000 in
theorem write4_any (v : Val) (AL : Option Addr) (cL : Nat) (AT : Option Addr) (cT : Nat) (w : World) (hok : VOk v) (hs : Small v) (hL : Row w AL (v.L.map (Value.int .i64))) (hT : Row w AT (v.T.map Value.string)) (ht : Tab w) (hk : kindOf v.K = 4) :
    Calls Tryd.prog 42 #[.agg #[.int .i64 v.K, .int .i64 v.N, .string v.S, .slice AL v.L.length cL, .slice AT v.T.length cT]] w (StrIs (enc v) w) := by
  have HL := Lib.hid hL
  have HT := Lib.hid hT
  have HO := Lib.hid hok
  have HS := Lib.hid hs
  have HE := Lib.hid (enc4 hk)
  have HK := Lib.hid hk
  clear hL hT hok hs hk
  go_enter Tryd.func42, Tryd.ntmps42
  have KB := Lib.hid (box_kept w v AL cL AT cT)
  go_wp2_with fail
  refine (kind_is v.K 4 HK.out _ _ _ _ HO.out.1 _).mono ?_
  rintro e w2 ⟨rfl, hb⟩
  have K2 := Lib.hid (KB.out.go hb)
  obtain ⟨k1, k2, k3, k4, _, _⟩ := K2.out
  clear hb KB
  go_wp2_with fail
  refine (texts_any _ _ _ _ (row_kept HT.out K2.out) (fun x hx => by have := HS.out.ts x hx; omega) (by have := HS.out.tot; omega) (by have := HS.out.t; omega) (tab_kept ht K2.out)).mono ?_
  rintro e w4 ⟨s, rfl, hs, hb4⟩
  have HX := Lib.hid hs; clear hs
  have K4 := K2.out.go hb4
  go_wp2
  go_ret
  exact ⟨_, rfl, by rw [HX.out, HE.out], K4.2.2.2.2.2.out⟩

theorem write_any (v : Val) (AL : Option Addr) (cL : Nat) (AT : Option Addr) (cT : Nat) (w : World) (hok : VOk v) (hs : Small v) (hL : Row w AL (v.L.map (Value.int .i64))) (hT : Row w AT (v.T.map Value.string)) (ht : Tab w) :
    Calls Tryd.prog 42 #[.agg #[.int .i64 v.K, .int .i64 v.N, .string v.S, .slice AL v.L.length cL, .slice AT v.T.length cT]] w (StrIs (enc v) w) := by
  rcases kind_range v.K with h | h | h | h | h
  · exact write0_any v AL cL AT cT w hok hs hL hT ht h
  · exact write1_any v AL cL AT cT w hok hs hL hT ht h
  · exact write2_any v AL cL AT cT w hok hs hL hT ht h
  · exact write3_any v AL cL AT cT w hok hs hL hT ht h
  · exact write4_any v AL cL AT cT w hok hs hL hT ht h

end Go.Proofs.YtdpedeknccnbhaaDoor
