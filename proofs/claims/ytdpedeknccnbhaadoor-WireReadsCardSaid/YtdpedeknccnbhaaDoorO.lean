/-
  Contracts of the laws' own helpers (5): equal.
-/
import Derived.Test.YtdpedeknccnbhaaDoorN
set_option linter.unusedVariables false
namespace Go.Proofs.YtdpedeknccnbhaaDoor
open Go.RowKit Go.Sort

set_option maxRecDepth 100000 in
set_option maxHeartbeats 4000000 in
theorem equal0_any (r : Nat) (s : ByteArray) (rest : List UInt8) (v : Val) (AL : Option Addr) (cL : Nat) (AT : Option Addr) (cT : Nat) (w0 w : World) (hs : s.data.toList = enc v ++ rest) (hsz : s.size ≤ 1099511627776) (hr : RdrAt 54 r s false w)
    (hb0 : Below w0.heap.size w0 w) (hr0 : w0.heap.size ≤ r) (hok : VOk v) (hL : Row w0 AL (v.L.map (Value.int .i64))) (hT : Row w0 AT (v.T.map Value.string)) (hk : kindOf v.K = 0) :
    Calls Tryd.prog 43 #[.pointer (some ⟨r, 0, none⟩), .agg #[.int .i64 v.K, .int .i64 v.N, .string v.S, .slice AL v.L.length cL, .slice AT v.T.length cT]] w (After 54 r (.bool true) rest false w) := by
  have hlen : s.data.toList.length ≤ maxI := by rw [size_list]; unfold maxI; omega
  have HX := Lib.hid (rdNum_enc hk hok hs)
  have HL := Lib.hid hL
  have HT := Lib.hid hT
  have HO := Lib.hid hok
  have HK := Lib.hid hk
  have HB := Lib.hid hb0
  have HR := Lib.hid hr
  have hlt := hr.lt
  clear hL hT hok hk hb0 hr hs hlen
  go_enter Tryd.func43, Tryd.ntmps43
  have KB := Lib.hid (box_kept w v AL cL AT cT)
  go_wp2_with fail
  refine (kind_is v.K 0 HK.out _ _ _ _ HO.out.1 _).mono ?_
  rintro e w2 ⟨rfl, hb⟩
  have K2 := Lib.hid (KeptR.of (KB.out.go hb) r)
  have HR2 : Hid (RdrAt 54 r s false w2) := Lib.hid (HR.out.kept (row := none) (grown_of_below (KB.out.go hb).2.2.2.2.2.out none) (by simp))
  clear hb KB HR
  have hne : Hid (r ≠ w.heap.size) := Lib.hid (by omega)
  go_wp2
  go_region_held3 (fun w' => w'.cell? ⟨w.heap.size, 1, none⟩ = some (.int .i64 v.N) ∧ w'.cell? ⟨w.heap.size, 2, none⟩ = some (.string v.S) ∧ w'.cell? ⟨w.heap.size, 3, none⟩ = some (.slice AL v.L.length cL) ∧ w'.cell? ⟨w.heap.size, 4, none⟩ = some (.slice AT v.T.length cT) ∧ w.heap.size < w'.heap.size ∧ Hid (w.grownBy w' (some r)))
      (first | exact K2.out | exact KeptR.drewN K2.out 1 | exact KeptR.go ‹_› hne.out ‹_› | exact KeptR.drewN ‹_› _ | assumption)
      (first
        | (go_at_call 24; refine (numR_any r s false _ ?_ hsz).mono ?_; (exact RdrAt.of_heap HR2.out rfl); rw [HX.out]; rintro e w' ⟨rfl, hA, hg⟩)
        | (go_at_call 57; refine (number_any _ HO.out.2.1 _).mono ?_; rintro e w' ⟨rfl, rfl⟩))
  go_wp2
  go_ret
  obtain ⟨s9, hs9, hr9⟩ := hA
  exact ⟨rfl, ⟨s9, hs9, RdrAt.of_heap hr9 rfl⟩, kr_end (B := w.heap.size) (v := v) (AL := AL) (cL := cL) (AT := AT) (cT := cT) (by assumption)⟩

set_option maxRecDepth 100000 in
set_option maxHeartbeats 4000000 in
theorem equal1_any (r : Nat) (s : ByteArray) (rest : List UInt8) (v : Val) (AL : Option Addr) (cL : Nat) (AT : Option Addr) (cT : Nat) (w0 w : World) (hs : s.data.toList = enc v ++ rest) (hsz : s.size ≤ 1099511627776) (hr : RdrAt 54 r s false w)
    (hb0 : Below w0.heap.size w0 w) (hr0 : w0.heap.size ≤ r) (hok : VOk v) (hL : Row w0 AL (v.L.map (Value.int .i64))) (hT : Row w0 AT (v.T.map Value.string)) (hk : kindOf v.K = 1) :
    Calls Tryd.prog 43 #[.pointer (some ⟨r, 0, none⟩), .agg #[.int .i64 v.K, .int .i64 v.N, .string v.S, .slice AL v.L.length cL, .slice AT v.T.length cT]] w (After 54 r (.bool true) rest false w) := by
  have hlen : s.data.toList.length ≤ maxI := by rw [size_list]; unfold maxI; omega
  have HX := Lib.hid (rdInt_enc hk hok hs)
  have HL := Lib.hid hL
  have HT := Lib.hid hT
  have HO := Lib.hid hok
  have HK := Lib.hid hk
  have HB := Lib.hid hb0
  have HR := Lib.hid hr
  have hlt := hr.lt
  clear hL hT hok hk hb0 hr hs hlen
  go_enter Tryd.func43, Tryd.ntmps43
  have KB := Lib.hid (box_kept w v AL cL AT cT)
  go_wp2_with fail
  refine (kind_is v.K 1 HK.out _ _ _ _ HO.out.1 _).mono ?_
  rintro e w2 ⟨rfl, hb⟩
  have K2 := Lib.hid (KeptR.of (KB.out.go hb) r)
  have HR2 : Hid (RdrAt 54 r s false w2) := Lib.hid (HR.out.kept (row := none) (grown_of_below (KB.out.go hb).2.2.2.2.2.out none) (by simp))
  clear hb KB HR
  have hne : Hid (r ≠ w.heap.size) := Lib.hid (by omega)
  go_wp2
  go_region_held3 (fun w' => w'.cell? ⟨w.heap.size, 1, none⟩ = some (.int .i64 v.N) ∧ w'.cell? ⟨w.heap.size, 2, none⟩ = some (.string v.S) ∧ w'.cell? ⟨w.heap.size, 3, none⟩ = some (.slice AL v.L.length cL) ∧ w'.cell? ⟨w.heap.size, 4, none⟩ = some (.slice AT v.T.length cT) ∧ w.heap.size < w'.heap.size ∧ Hid (w.grownBy w' (some r)))
      (first | exact K2.out | exact KeptR.drewN K2.out 1 | exact KeptR.go ‹_› hne.out ‹_› | exact KeptR.drewN ‹_› _ | assumption)
      (first
        | (go_at_call 26; refine (intR_any r s false _ ?_ hsz).mono ?_; (exact RdrAt.of_heap HR2.out rfl); rw [HX.out]; rintro e w' ⟨rfl, hA, hg⟩))
  go_wp2
  go_ret
  obtain ⟨s9, hs9, hr9⟩ := hA
  exact ⟨rfl, ⟨s9, hs9, RdrAt.of_heap hr9 rfl⟩, kr_end (B := w.heap.size) (v := v) (AL := AL) (cL := cL) (AT := AT) (cT := cT) (by assumption)⟩

set_option maxRecDepth 100000 in
set_option maxHeartbeats 4000000 in
theorem equal2_any (r : Nat) (s : ByteArray) (rest : List UInt8) (v : Val) (AL : Option Addr) (cL : Nat) (AT : Option Addr) (cT : Nat) (w0 w : World) (hs : s.data.toList = enc v ++ rest) (hsz : s.size ≤ 1099511627776) (hr : RdrAt 54 r s false w)
    (hb0 : Below w0.heap.size w0 w) (hr0 : w0.heap.size ≤ r) (hok : VOk v) (hL : Row w0 AL (v.L.map (Value.int .i64))) (hT : Row w0 AT (v.T.map Value.string)) (hk : kindOf v.K = 2) :
    Calls Tryd.prog 43 #[.pointer (some ⟨r, 0, none⟩), .agg #[.int .i64 v.K, .int .i64 v.N, .string v.S, .slice AL v.L.length cL, .slice AT v.T.length cT]] w (After 54 r (.bool true) rest false w) := by
  have hlen : s.data.toList.length ≤ maxI := by rw [size_list]; unfold maxI; omega
  have HX := Lib.hid (rdText_enc hk hs hlen)
  have HL := Lib.hid hL
  have HT := Lib.hid hT
  have HO := Lib.hid hok
  have HK := Lib.hid hk
  have HB := Lib.hid hb0
  have HR := Lib.hid hr
  have hlt := hr.lt
  clear hL hT hok hk hb0 hr hs hlen
  go_enter Tryd.func43, Tryd.ntmps43
  have KB := Lib.hid (box_kept w v AL cL AT cT)
  go_wp2_with fail
  refine (kind_is v.K 2 HK.out _ _ _ _ HO.out.1 _).mono ?_
  rintro e w2 ⟨rfl, hb⟩
  have K2 := Lib.hid (KeptR.of (KB.out.go hb) r)
  have HR2 : Hid (RdrAt 54 r s false w2) := Lib.hid (HR.out.kept (row := none) (grown_of_below (KB.out.go hb).2.2.2.2.2.out none) (by simp))
  clear hb KB HR
  have hne : Hid (r ≠ w.heap.size) := Lib.hid (by omega)
  go_wp2
  go_region_held3 (fun w' => w'.cell? ⟨w.heap.size, 1, none⟩ = some (.int .i64 v.N) ∧ w'.cell? ⟨w.heap.size, 2, none⟩ = some (.string v.S) ∧ w'.cell? ⟨w.heap.size, 3, none⟩ = some (.slice AL v.L.length cL) ∧ w'.cell? ⟨w.heap.size, 4, none⟩ = some (.slice AT v.T.length cT) ∧ w.heap.size < w'.heap.size ∧ Hid (w.grownBy w' (some r)))
      (first | exact K2.out | exact KeptR.drewN K2.out 1 | exact KeptR.go ‹_› hne.out ‹_› | exact KeptR.drewN ‹_› _ | assumption)
      (first
        | (go_at_call 28; refine (textR_any r s false _ ?_ hsz).mono ?_; (exact RdrAt.of_heap HR2.out rfl); rw [HX.out]; rintro e w' ⟨rfl, hA, hg⟩; rw [show vStr v.S.data.toList = Value.string v.S from rfl]))
  go_wp2
  go_ret
  obtain ⟨s9, hs9, hr9⟩ := hA
  exact ⟨rfl, ⟨s9, hs9, RdrAt.of_heap hr9 rfl⟩, kr_end (B := w.heap.size) (v := v) (AL := AL) (cL := cL) (AT := AT) (cT := cT) (by assumption)⟩

set_option maxRecDepth 100000 in
set_option maxHeartbeats 4000000 in
theorem equal3_any (r : Nat) (s : ByteArray) (rest : List UInt8) (v : Val) (AL : Option Addr) (cL : Nat) (AT : Option Addr) (cT : Nat) (w0 w : World) (hs : s.data.toList = enc v ++ rest) (hsz : s.size ≤ 1099511627776) (hr : RdrAt 54 r s false w)
    (hb0 : Below w0.heap.size w0 w) (hr0 : w0.heap.size ≤ r) (hok : VOk v) (hL : Row w0 AL (v.L.map (Value.int .i64))) (hT : Row w0 AT (v.T.map Value.string)) (hk : kindOf v.K = 3) :
    Calls Tryd.prog 43 #[.pointer (some ⟨r, 0, none⟩), .agg #[.int .i64 v.K, .int .i64 v.N, .string v.S, .slice AL v.L.length cL, .slice AT v.T.length cT]] w (After 54 r (.bool true) rest false w) := by
  have hlen : s.data.toList.length ≤ maxI := by rw [size_list]; unfold maxI; omega
  have HX := Lib.hid (rdNums_enc hk hok hs hlen)
  have HL := Lib.hid hL
  have HT := Lib.hid hT
  have HO := Lib.hid hok
  have HK := Lib.hid hk
  have HB := Lib.hid hb0
  have HR := Lib.hid hr
  have hlt := hr.lt
  clear hL hT hok hk hb0 hr hs hlen
  go_enter Tryd.func43, Tryd.ntmps43
  have KB := Lib.hid (box_kept w v AL cL AT cT)
  go_wp2_with fail
  refine (kind_is v.K 3 HK.out _ _ _ _ HO.out.1 _).mono ?_
  rintro e w2 ⟨rfl, hb⟩
  have K2 := Lib.hid (KeptR.of (KB.out.go hb) r)
  have HR2 : Hid (RdrAt 54 r s false w2) := Lib.hid (HR.out.kept (row := none) (grown_of_below (KB.out.go hb).2.2.2.2.2.out none) (by simp))
  clear hb KB HR
  have hne : Hid (r ≠ w.heap.size) := Lib.hid (by omega)
  go_wp2
  go_region_held3 (fun w' => w'.cell? ⟨w.heap.size, 1, none⟩ = some (.int .i64 v.N) ∧ w'.cell? ⟨w.heap.size, 2, none⟩ = some (.string v.S) ∧ w'.cell? ⟨w.heap.size, 3, none⟩ = some (.slice AL v.L.length cL) ∧ w'.cell? ⟨w.heap.size, 4, none⟩ = some (.slice AT v.T.length cT) ∧ w.heap.size < w'.heap.size ∧ Hid (w.grownBy w' (some r)))
      (first | exact K2.out | exact KeptR.drewN K2.out 1 | exact KeptR.go ‹_› hne.out ‹_› | exact KeptR.drewN ‹_› _ | assumption)
      (first
        | (go_at_call 31; refine (numsR_any r s false (fun h => nomatch h) _ ?_ hsz).mono ?_; (exact RdrAt.of_heap HR2.out rfl); rw [HX.out]; rintro e w' ⟨A, cap, rfl, hrow, hA, hg⟩)
        | (go_at_call 30; refine (sameInts_any A cap AL cL v.L _ ?_ ?_ HO.out.2.2.2.1).mono ?_; (exact NRow.row (by assumption)); (exact HL.out.below (HB.out.trans (below_of_grown ((by assumption : KeptR r w.heap.size v AL cL AT cT w _).2.2.2.2.2.out) HB.out.size hr0))); rintro e w4 ⟨rfl, n, rfl⟩))
  go_wp2
  go_ret
  obtain ⟨s9, hs9, hr9⟩ := hA
  exact ⟨rfl, ⟨s9, hs9, RdrAt.of_heap hr9 rfl⟩, kr_end (B := w.heap.size) (v := v) (AL := AL) (cL := cL) (AT := AT) (cT := cT) (by assumption)⟩

set_option maxRecDepth 100000 in
set_option maxHeartbeats 4000000 in
theorem equal4_any (r : Nat) (s : ByteArray) (rest : List UInt8) (v : Val) (AL : Option Addr) (cL : Nat) (AT : Option Addr) (cT : Nat) (w0 w : World) (hs : s.data.toList = enc v ++ rest) (hsz : s.size ≤ 1099511627776) (hr : RdrAt 54 r s false w)
    (hb0 : Below w0.heap.size w0 w) (hr0 : w0.heap.size ≤ r) (hok : VOk v) (hL : Row w0 AL (v.L.map (Value.int .i64))) (hT : Row w0 AT (v.T.map Value.string)) (hk : kindOf v.K = 4) :
    Calls Tryd.prog 43 #[.pointer (some ⟨r, 0, none⟩), .agg #[.int .i64 v.K, .int .i64 v.N, .string v.S, .slice AL v.L.length cL, .slice AT v.T.length cT]] w (After 54 r (.bool true) rest false w) := by
  have hlen : s.data.toList.length ≤ maxI := by rw [size_list]; unfold maxI; omega
  have HX := Lib.hid (rdTexts_enc hk hok hs hlen)
  have HL := Lib.hid hL
  have HT := Lib.hid hT
  have HO := Lib.hid hok
  have HK := Lib.hid hk
  have HB := Lib.hid hb0
  have HR := Lib.hid hr
  have hlt := hr.lt
  clear hL hT hok hk hb0 hr hs hlen
  go_enter Tryd.func43, Tryd.ntmps43
  have KB := Lib.hid (box_kept w v AL cL AT cT)
  go_wp2_with fail
  refine (kind_is v.K 4 HK.out _ _ _ _ HO.out.1 _).mono ?_
  rintro e w2 ⟨rfl, hb⟩
  have K2 := Lib.hid (KeptR.of (KB.out.go hb) r)
  have HR2 : Hid (RdrAt 54 r s false w2) := Lib.hid (HR.out.kept (row := none) (grown_of_below (KB.out.go hb).2.2.2.2.2.out none) (by simp))
  clear hb KB HR
  have hne : Hid (r ≠ w.heap.size) := Lib.hid (by omega)
  go_wp2
  go_region_held3 (fun w' => w'.cell? ⟨w.heap.size, 1, none⟩ = some (.int .i64 v.N) ∧ w'.cell? ⟨w.heap.size, 2, none⟩ = some (.string v.S) ∧ w'.cell? ⟨w.heap.size, 3, none⟩ = some (.slice AL v.L.length cL) ∧ w'.cell? ⟨w.heap.size, 4, none⟩ = some (.slice AT v.T.length cT) ∧ w.heap.size < w'.heap.size ∧ Hid (w.grownBy w' (some r)))
      (first | exact K2.out | exact KeptR.drewN K2.out 1 | exact KeptR.go ‹_› hne.out ‹_› | exact KeptR.drewN ‹_› _ | assumption)
      (first
        | (go_at_call 34; refine (textsR_any r s false (fun h => nomatch h) _ ?_ hsz).mono ?_; (exact RdrAt.of_heap HR2.out rfl); rw [HX.out]; rintro e w' ⟨A, cap, rfl, hrow, hA, hg⟩)
        | (go_at_call 33; refine (sameStrs_any A cap AT cT v.T _ ?_ ?_ HO.out.2.2.2.2.1).mono ?_; (rw [← vStr_map]; exact NRow.row (by assumption)); (exact HT.out.below (HB.out.trans (below_of_grown ((by assumption : KeptR r w.heap.size v AL cL AT cT w _).2.2.2.2.2.out) HB.out.size hr0))); rintro e w4 ⟨rfl, n, rfl⟩))
  go_wp2
  go_ret
  obtain ⟨s9, hs9, hr9⟩ := hA
  exact ⟨rfl, ⟨s9, hs9, RdrAt.of_heap hr9 rfl⟩, kr_end (B := w.heap.size) (v := v) (AL := AL) (cL := cL) (AT := AT) (cT := cT) (by assumption)⟩

theorem equal_any (r : Nat) (s : ByteArray) (rest : List UInt8) (v : Val) (AL : Option Addr) (cL : Nat) (AT : Option Addr) (cT : Nat) (w0 w : World) (hs : s.data.toList = enc v ++ rest) (hsz : s.size ≤ 1099511627776) (hr : RdrAt 54 r s false w)
    (hb0 : Below w0.heap.size w0 w) (hr0 : w0.heap.size ≤ r) (hok : VOk v) (hL : Row w0 AL (v.L.map (Value.int .i64))) (hT : Row w0 AT (v.T.map Value.string)) :
    Calls Tryd.prog 43 #[.pointer (some ⟨r, 0, none⟩), .agg #[.int .i64 v.K, .int .i64 v.N, .string v.S, .slice AL v.L.length cL, .slice AT v.T.length cT]] w (After 54 r (.bool true) rest false w) := by
  rcases kind_range v.K with h | h | h | h | h
  · exact equal0_any r s rest v AL cL AT cT w0 w hs hsz hr hb0 hr0 hok hL hT h
  · exact equal1_any r s rest v AL cL AT cT w0 w hs hsz hr hb0 hr0 hok hL hT h
  · exact equal2_any r s rest v AL cL AT cT w0 w hs hsz hr hb0 hr0 hok hL hT h
  · exact equal3_any r s rest v AL cL AT cT w0 w hs hsz hr hb0 hr0 hok hL hT h
  · exact equal4_any r s rest v AL cL AT cT w0 w hs hsz hr hb0 hr0 hok hL hT h

end Go.Proofs.YtdpedeknccnbhaaDoor
