/-
  Contracts of layer 13 (28): rises, Respect.
-/
import Derived.Test.YtngddecpfhlilaaGreatD35
import Derived.Test.YtngddecpfhlilaaGreatD22
import Derived.Test.YtngddecpfhlilaaGreatD12
import Derived.Shelf.Abstract
set_option linter.unusedVariables false
set_option maxRecDepth 100000
namespace Go.Proofs.YtngddecpfhlilaaGreat
open Go.RowKit
set_option maxHeartbeats 8000000 in
theorem zif_any (K : Nat) (eg : ∀ args w, (callFunc K args).run Tryz.prog w = .ok (.enter K args) w) (caps : Array Value) (p : Sl → Bool) (A : Option Addr) (cap : Nat) (l : List Sl) (w : World) (hl : SIn w A cap l)
    (hc : ∀ j (h : j < l.length) w', Below w.heap.size w w' → ∀ (QA : Option Addr) (QC : Nat), RIn w' QA QC l[j].ar → Calls Tryz.prog K (#[.agg #[.int .i64 l[j].z0, .int .i64 l[j].z1, .slice QA l[j].ar.length QC]] ++ caps) w' (BlIs (p l[j]) w')) :
    Calls Tryz.prog 173 #[.slice A l.length cap, .func (.func K) #[] caps] w (IxIs l p w) := by
  have HL := Lib.hid hl; clear hl
  have HC := Lib.hid hc; clear hc
  have HB0 := Lib.hid (Below.refl w.heap.size w)
  go_enter Tryz.func173, Tryz.ntmps173
  go_wp2
  go_loopw [8] (fun i wr => ∃ (k : Nat), k ≤ l.length ∧ i = .int .i64 k ∧ Hid (Below w.heap.size w wr) ∧ ∀ j (h : j < l.length), j < k → p l[j] = false) (fun i _ => l.length - (intOf i).toNat)
  case atStart => exact ⟨0, Nat.zero_le _, rfl, HB0, fun j h hj => absurd hj (Nat.not_lt_zero _)⟩
  case round =>
    clear HB0
    obtain ⟨k, hk, rfl, HB, ht⟩ := hrel
    have HT := Lib.hid ht; clear ht
    by_cases hlt : k < l.length
    · obtain ⟨ba, oa, rfl, hba, hva⟩ := HL.out.row (by omega)
      obtain ⟨x0, x1, QA, QC, x2, hq⟩ := hva k hlt
      clear hva
      have wc := fun o => HB.out.cell (p := ⟨ba, o, none⟩) hba
      have x0 := (wc _).trans x0; have x1 := (wc _).trans x1; have x2 := (wc _).trans x2
      clear wc
      have HQ := Lib.hid (fun w' hb => RIn.below (w' := w') hq hb); clear hq
      have HC2 := Lib.hid (HC.out k hlt)
      have hm := List.getElem_mem hlt
      have HTK := Lib.hid (fun (c : p l[k] = false) j (h : j < l.length) (hj : j < k + 1) => show p l[j] = false from by
          by_cases e : j < k
          · exact HT.out j h e
          · obtain rfl : j = k := by omega
            exact c)
      generalize l[k] = u at *
      have HYK := Lib.hid (fun c : p u = true => (⟨fun _ => ⟨u, hm, c⟩, fun _ => by omega⟩ : 0 ≤ (k : Int) ↔ ∃ x ∈ l, p x = true)); clear hm
      have i0 : (0 : Int) ≤ (k : Int) := by omega
      have i1 : (k : Int) < (l.length : Int) := by omega
      have hlen := HL.out.len
      have hbs := HB.out.size
      cases c : p u with
      | true =>
        have HY := Lib.hid (HYK.out c); clear HYK HTK
        have HCC : Hid (∀ w', Below w.heap.size w w' → Calls Tryz.prog K (#[.agg #[.int .i64 u.z0, .int .i64 u.z1, .slice QA u.ar.length QC]] ++ caps) w' (BlIs true w')) := Lib.hid (fun w' hb => by have := HC2.out w' hb QA QC (HQ.out w' hb); rw [c] at this; exact this)
        clear c HC2
        go_wp2_with (go_at_fn K; refine (HCC.out _ (by (repeat' first | exact Below.refl _ _ | assumption | (apply below_drewN) | (refine Below.setCell ?_ (by (try simp); (try omega)) _) | (refine Below.alloc ?_ (by (try simp); (try omega)) _) | (refine Below.trans ?_ (Below.mono (Hid.out (by assumption)) (by (try simp); (try omega))))))).mono ?_; rintro e w1 ⟨rfl, hb⟩; have HBl := Lib.hid hb; clear hb)
        go_ret
        exact ⟨_, rfl, HY.out, by (repeat' first | exact Below.refl _ _ | assumption | (apply below_drewN) | (refine Below.setCell ?_ (by (try simp); (try omega)) _) | (refine Below.alloc ?_ (by (try simp); (try omega)) _) | (refine Below.trans ?_ (Below.mono (Hid.out (by assumption)) (by (try simp); (try omega)))))⟩
      | false =>
        have HN := Lib.hid (HTK.out c); clear HYK HTK
        have HCC : Hid (∀ w', Below w.heap.size w w' → Calls Tryz.prog K (#[.agg #[.int .i64 u.z0, .int .i64 u.z1, .slice QA u.ar.length QC]] ++ caps) w' (BlIs false w')) := Lib.hid (fun w' hb => by have := HC2.out w' hb QA QC (HQ.out w' hb); rw [c] at this; exact this)
        clear c HC2
        go_wp2_with (go_at_fn K; refine (HCC.out _ (by (repeat' first | exact Below.refl _ _ | assumption | (apply below_drewN) | (refine Below.setCell ?_ (by (try simp); (try omega)) _) | (refine Below.alloc ?_ (by (try simp); (try omega)) _) | (refine Below.trans ?_ (Below.mono (Hid.out (by assumption)) (by (try simp); (try omega))))))).mono ?_; rintro e w1 ⟨rfl, hb⟩; have HBl := Lib.hid hb; clear hb)
        go_roundw
        case rel => exact ⟨k + 1, by omega, by go_num, Lib.hid (by (repeat' first | exact Below.refl _ _ | assumption | (apply below_drewN) | (refine Below.setCell ?_ (by (try simp); (try omega)) _) | (refine Below.alloc ?_ (by (try simp); (try omega)) _) | (refine Below.trans ?_ (Below.mono (Hid.out (by assumption)) (by (try simp); (try omega)))))), HN.out⟩
        case measure => simp [intOf]; omega
    · obtain rfl : k = l.length := by omega
      have HY : Hid (0 ≤ (-1 : Int) ↔ ∃ x ∈ l, p x = true) := Lib.hid ⟨fun h => absurd h (by decide), fun ⟨r, hr, h⟩ => by
        obtain ⟨j, hj, rfl⟩ := List.mem_iff_getElem.1 hr
        rw [HT.out j hj hj] at h; cases h⟩
      go_wp2
      go_ret
      exact ⟨_, rfl, HY.out, HB.out⟩
theorem zcf_any (K : Nat) (eg : ∀ args w, (callFunc K args).run Tryz.prog w = .ok (.enter K args) w) (caps : Array Value) (p : Sl → Bool) (A : Option Addr) (cap : Nat) (l : List Sl) (w : World) (hl : SIn w A cap l)
  (hc : ∀ j (h : j < l.length) w', Below w.heap.size w w' → ∀ (QA : Option Addr) (QC : Nat), RIn w' QA QC l[j].ar → Calls Tryz.prog K (#[.agg #[.int .i64 l[j].z0, .int .i64 l[j].z1, .slice QA l[j].ar.length QC]] ++ caps) w' (BlIs (p l[j]) w')) :
  Calls Tryz.prog 145 #[.slice A l.length cap, .func (.func K) #[] caps] w (BlIs (l.any p) w) := by
 have HI := Lib.hid (zif_any K eg caps p A cap l w hl hc)
 clear hl hc
 go_enter Tryz.func145, Tryz.ntmps145
 go_wp2_with fail
 refine HI.out.mono ?_
 rintro e w1 ⟨i, rfl, hi, hb⟩
 have HB1 := Lib.hid hb
 have HE : Hid (l.any p = decide (0 ≤ i)) := Lib.hid (by rw [Bool.eq_iff_iff, List.any_eq_true, decide_eq_true_iff]; exact hi.symm)
 clear hi hb HI
 go_wp2_with fail
 go_ret
 exact ⟨by rw [HE.out]; rfl, HB1.out⟩
def risB (top : Int) (ear : List Rc) (s : Sl) : Bool := decide (top < s.z1) && mtB s.ar ear
theorem eg_ri : ∀ args w, (callFunc 146 args).run Tryz.prog w = .ok (.enter 146 args) w := enters_of Tryz.func146 (by kernel_rfl) rfl
theorem risC_any (e : Es) (EA : Option Addr) (EC : Nat) (s : Sl) (QA : Option Addr) (QC : Nat) (pb : Nat) (w : World) (hs : RIn w QA QC s.ar) (he : RIn w EA EC e.ar) (hp : w.heap[pb]? = some (.cells #[.int .i64 e.lot, .slice EA e.ar.length EC, .int .i64 e.top] 63 (0, 0))) :
  Calls Tryz.prog 146 #[.agg #[.int .i64 s.z0, .int .i64 s.z1, .slice QA s.ar.length QC], .pointer (some ⟨pb, 0, none⟩)] w (BlIs (risB e.top e.ar s) w) := by
 have HM := Lib.hid (fun w' (hb : Below w.heap.size w w') => meet13_any QA QC EA EC s.ar e.ar w' (hs.below hb) (he.below hb))
 have hpl := (Array.getElem?_eq_some_iff.1 hp).1
 have x0 : w.cell? ⟨pb, 0, none⟩ = some (.int .i64 e.lot) := by rw [Lib.cell_of_heap hp]; rfl
 have x1 : w.cell? ⟨pb, 1, none⟩ = some (.slice EA e.ar.length EC) := by rw [Lib.cell_of_heap hp]; rfl
 have x2 : w.cell? ⟨pb, 2, none⟩ = some (.int .i64 e.top) := by rw [Lib.cell_of_heap hp]; rfl
 clear hs he hp
 unfold risB
 generalize mtB s.ar e.ar = z at *
 obtain ⟨lot, ear, top⟩ := e
 obtain ⟨z0, z1, sar⟩ := s
 simp only at HM x0 x1 x2 ⊢
 by_cases c : top < z1
 ·rw [decide_eq_true c, Bool.true_and]
  have e1 : decide (top < z1) = true := decide_eq_true c
  go_enter Tryz.func146, Tryz.ntmps146
  go_wp2_with fail
  refine (HM.out _ (by (repeat' first | exact Below.refl _ _ | assumption | (apply below_drewN) | (refine Below.setCell ?_ (by (try simp); (try omega)) _) | (refine Below.alloc ?_ (by (try simp); (try omega)) _) | (refine Below.trans ?_ (Below.mono (Hid.out (by assumption)) (by (try simp); (try omega))))))).mono ?_
  rintro e w1 ⟨rfl, hb⟩
  have HB := Lib.hid hb; clear hb
  go_wp2_with fail
  go_ret
  exact ⟨rfl, by (repeat' first | exact Below.refl _ _ | assumption | (apply below_drewN) | (refine Below.setCell ?_ (by (try simp); (try omega)) _) | (refine Below.alloc ?_ (by (try simp); (try omega)) _) | (refine Below.trans ?_ (Below.mono (Hid.out (by assumption)) (by (try simp); (try omega)))))⟩
 ·rw [decide_eq_false c, Bool.false_and]
  have e1 : decide (top < z1) = false := decide_eq_false c
  go_enter Tryz.func146, Tryz.ntmps146
  go_wp2_with fail
  go_ret
  exact ⟨rfl, by (repeat' first | exact Below.refl _ _ | assumption | (apply below_drewN) | (refine Below.setCell ?_ (by (try simp); (try omega)) _) | (refine Below.alloc ?_ (by (try simp); (try omega)) _) | (refine Below.trans ?_ (Below.mono (Hid.out (by assumption)) (by (try simp); (try omega)))))⟩
theorem rises_any (e : Es) (EA : Option Addr) (EC : Nat) (A : Option Addr) (cap : Nat) (S : List Sl) (w : World) (hS : SIn w A cap S) (he : RIn w EA EC e.ar) :
  Calls Tryz.prog 92 #[.slice A S.length cap, .agg #[.int .i64 e.lot, .slice EA e.ar.length EC, .int .i64 e.top]] w (BlIs (S.any (risB e.top e.ar)) w) := by
 have HC : Hid (∀ w' pb, Below w.heap.size w w' → w'.heap[pb]? = some (.cells #[.int .i64 e.lot, .slice EA e.ar.length EC, .int .i64 e.top] 63 (0, 0)) → Calls Tryz.prog 145 #[.slice A S.length cap, .func (.func 146) #[] #[.pointer (some ⟨pb, 0, none⟩)]] w' (BlIs (S.any (risB e.top e.ar)) w')) := Lib.hid (fun w' pb hb h1 => zcf_any 146 eg_ri #[.pointer (some ⟨pb, 0, none⟩)] (risB e.top e.ar) A cap S w' (hS.below hb) (fun j hj w2 hb2 QA QC hq => risC_any e EA EC S[j] QA QC pb w2 hq ((he.below hb).below hb2) ((hb2.block pb (Array.getElem?_eq_some_iff.1 h1).1).trans h1)))
 have hlen := hS.len
 clear hS he
 generalize S.any (risB e.top e.ar) = z at *
 have HI := Lib.hid (heap_alloc_new w (.cells #[.int .i64 e.lot, .slice EA e.ar.length EC, .int .i64 e.top] 63))
 have HB0 : Hid (Below w.heap.size w (w.alloc (.cells #[.int .i64 e.lot, .slice EA e.ar.length EC, .int .i64 e.top] 63))) := Lib.hid ((Below.refl _ _).alloc (Nat.le_refl _) _)
 go_enter Tryz.func92, Tryz.ntmps92
 go_wp2_with fail
 refine (HC.out _ _ HB0.out HI.out).mono ?_
 rintro e w1 ⟨rfl, hb⟩
 have HB1 := Lib.hid (HB0.out.trans (hb.mono HB0.out.size)); clear hb
 go_wp2_with fail
 go_ret
 exact ⟨rfl, HB1.out⟩
def EsRow (w : World) (A : Option Addr) (l : List Es) : Prop := 0 < l.length → ∃ b off, A = some ⟨b, off, none⟩ ∧ b < w.heap.size ∧ ∀ j (h : j < l.length), w.cell? ⟨b, off + j * 3, none⟩ = some (.int .i64 l[j].lot) ∧ w.cell? ⟨b, off + j * 3 + 2, none⟩ = some (.int .i64 l[j].top) ∧ ∃ Aj cj, w.cell? ⟨b, off + j * 3 + 1, none⟩ = some (.slice Aj l[j].ar.length cj) ∧ RIn w Aj cj l[j].ar
structure EsIn (w : World) (A : Option Addr) (cap : Nat) (l : List Es) : Prop where
 row : EsRow w A l
 len : l.length ≤ 1099511627776
 room : l.length ≤ cap
 room2 : cap ≤ 9223372036854775807
noncomputable def solB13 (S : List Sl) : Bool := @decide (SolP S) (Classical.propDecidable _)
noncomputable def esB (k : Int) (S : List Sl) (e : Es) : Bool := decide (e.lot = k) && rgB e.ar && S.any (risB e.top e.ar)
noncomputable def respB (l : List Es) (k : Int) (S : List Sl) : Bool := solB13 S && !(l.any (esB k S))
theorem sol_any (A : Option Addr) (cap : Nat) (S : List Sl) (w : World) (h : SIn w A cap S) : Calls Tryz.prog 91 #[.slice A S.length cap] w (BlIs (solB13 S) w) := by
 by_cases c : SolP S
 ·rw [show solB13 S = true from @decide_eq_true _ (Classical.propDecidable _) c]; exact bright_yes h c
 ·rw [show solB13 S = false from @decide_eq_false _ (Classical.propDecidable _) c]; exact bright_no h c
theorem any_at {l : List Es} {p : Es → Bool} {k : Nat} (hk : k < l.length) (h : p l[k] = true) : l.any p = true := List.any_eq_true.2 ⟨_, List.getElem_mem hk, h⟩
theorem any_no {l : List Es} {p : Es → Bool} (h : ∀ j (hj : j < l.length), p l[j] = false) : l.any p = false := by
 cases hc : l.any p
 ·rfl
 ·obtain ⟨e, he, h2⟩ := List.any_eq_true.1 hc
  obtain ⟨j, hj, rfl⟩ := List.getElem_of_mem he
  rw [h j hj] at h2; exact absurd h2 (by simp)
set_option maxHeartbeats 16000000 in
theorem respect_any (A : Option Addr) (cap : Nat) (l : List Es) (k : Int) (AS : Option Addr) (cs : Nat) (S : List Sl) (w : World) (h : EsIn w A cap l) (hS : SIn w AS cs S) :
  Calls Tryz.prog 38 #[.slice A l.length cap, .int .i64 k, .slice AS S.length cs] w (BlIs (respB l k S) w) := by
 have HSO := Lib.hid (sol_any AS cs S w hS)
 have HRI := Lib.hid (fun (e : Es) EA EC w' (hb : Below w.heap.size w w') (he : RIn w' EA EC e.ar) => rises_any e EA EC AS cs S w' (hS.below hb) he)
 have HRG := Lib.hid (fun EA EC ar w' (he : RIn w' EA EC ar) => rg_any EA EC ar w' he)
 have hlen := h.len
 have HROW := Lib.hid h.row
 have hslen := hS.len
 clear h hS
 have HX : Hid (respB l k S = (solB13 S && !(l.any (esB k S)))) := Lib.hid rfl
 generalize respB l k S = X at *
 generalize solB13 S = so at *
 go_enter Tryz.func38, Tryz.ntmps38
 go_wp2_with fail
 refine HSO.out.mono ?_
 rintro e w1 ⟨rfl, hb1⟩
 have HB1 := Lib.hid hb1; clear hb1
 cases so
 ·have HV : Hid (X = false) := Lib.hid (by rw [HX.out]; rfl)
  clear HX
  go_wp2_with fail
  go_ret
  rw [HV.out]; exact ⟨rfl, HB1.out⟩
 ·go_wp2_with fail
  go_loopw [14] (fun i wr => ∃ (j : Nat), j ≤ l.length ∧ i = .int .i64 j ∧ Hid (∀ t (ht : t < l.length), t < j → esB k S l[t] = false) ∧ Hid (Below w.heap.size w wr)) (fun i _ => l.length - (intOf i).toNat)
  case atStart => exact ⟨0, Nat.zero_le _, rfl, Lib.hid (fun t ht h => by omega), HB1⟩
  case round =>
   clear HB1
   obtain ⟨j, hj, rfl, HN, HB⟩ := hrel
   by_cases hlt : j < l.length
   ·obtain ⟨b, o, rfl, hb, hc⟩ := HROW.out (by omega)
    obtain ⟨x0, x2, EA, EC, x1, hr⟩ := hc j hlt
    have wc := fun o => HB.out.cell (p := ⟨b, o, none⟩) hb
    have x0 := (wc _).trans x0; have x1 := (wc _).trans x1; have x2 := (wc _).trans x2
    have HRR := Lib.hid (fun w' (hb : Below w.heap.size w w') => hr.below hb)
    have n0 : (0 : Int) ≤ (j : Int) := by omega
    have n1 : (j : Int) < (l.length : Int) := by omega
    have HAT := Lib.hid (fun (c : esB k S l[j] = true) => any_at hlt c)
    have HNX : Hid (esB k S l[j] = false → ∀ t (ht : t < l.length), t < j + 1 → esB k S l[t] = false) := Lib.hid (fun hne t ht htj => by
     by_cases e : t = j
     ·subst e; exact hne
     ·exact HN.out t ht (by omega))
    clear hc hr HN wc
    unfold esB at HAT HNX
    have HRI2 := Lib.hid (HRI.out l[j])
    generalize hu : l[j] = u at *
    clear hu
    obtain ⟨lot, ear, top⟩ := u
    simp only at x0 x1 x2 HAT HNX HRI2 HRR
    have hba : Below wr.heap.size wr (wr.alloc (.cells #[.int .i64 lot, .slice EA ear.length EC, .int .i64 top] 63)) := (Below.refl _ _).alloc (Nat.le_refl _) _
    have HBA := Lib.hid (HB.out.trans (hba.mono HB.out.size))
    have HI := Lib.hid (heap_alloc_new wr (.cells #[.int .i64 lot, .slice EA ear.length EC, .int .i64 top] 63))
    have hws : wr.heap.size < (wr.alloc (.cells #[.int .i64 lot, .slice EA ear.length EC, .int .i64 top] 63)).heap.size := by rw [World.size_alloc]; omega
    clear hba
    have HRG2 := Lib.hid (fun EA EC w' (he : RIn w' EA EC ear) => rg_any EA EC ear w' he)
    clear HRI HRG
    generalize rgB ear = rg at *
    generalize S.any (risB top ear) = ri at *
    by_cases c0 : lot = k
    ·have e0 : (lot == k) = true := by simpa using c0
     have C0 := Lib.hid c0; clear c0
     go_wp2_with fail
     refine (HRG2.out _ _ _ (HRR.out _ HBA.out)).mono ?_
     rintro e w5 ⟨rfl, hb5⟩
     have HB5 := Lib.hid (HBA.out.trans (hb5.mono HBA.out.size))
     have HI5 := Lib.hid ((hb5.block wr.heap.size hws).trans HI.out)
     clear hb5 hws
     cases rg
     ·have HN2 := Lib.hid (HNX.out (by simp))
      clear HNX HAT HRI2
      go_wp2_with fail
      go_roundw
      case rel => exact ⟨j + 1, by omega, by go_num, HN2, HB5⟩
      case measure => simp [intOf]; omega
     ·have y0 : w5.cell? ⟨wr.heap.size, 0, none⟩ = some (.int .i64 lot) := by rw [Lib.cell_of_heap HI5.out]; rfl
      have y1 : w5.cell? ⟨wr.heap.size, 1, none⟩ = some (.slice EA ear.length EC) := by rw [Lib.cell_of_heap HI5.out]; rfl
      have y2 : w5.cell? ⟨wr.heap.size, 2, none⟩ = some (.int .i64 top) := by rw [Lib.cell_of_heap HI5.out]; rfl
      have yl := (Array.getElem?_eq_some_iff.1 HI5.out).1
      clear x0 x1 x2
      go_wp2_with fail
      refine (HRI2.out EA EC _ HB5.out (HRR.out _ HB5.out)).mono ?_
      rintro e w6 ⟨rfl, hb6⟩
      have HB6 := Lib.hid (HB5.out.trans (hb6.mono HB5.out.size)); clear hb6
      cases ri
      ·have HN2 := Lib.hid (HNX.out (by simp))
       clear HNX HAT
       go_wp2_with fail
       go_roundw
       case rel => exact ⟨j + 1, by omega, by go_num, HN2, HB6⟩
       case measure => simp [intOf]; omega
      ·have HV : Hid (X = false) := Lib.hid (by rw [HX.out]; unfold esB; rw [HAT.out (by simp [C0.out])]; rfl)
       clear HX HNX HAT
       go_wp2_with fail
       go_ret
       rw [HV.out]; exact ⟨rfl, HB6.out⟩
    ·have e0 : (lot == k) = false := by simpa using c0
     have HN2 := Lib.hid (HNX.out (by simp [c0]))
     clear HNX HAT HRI2 HRG2
     go_wp2_with fail
     go_roundw
     case rel => exact ⟨j + 1, by omega, by go_num, HN2, HBA⟩
     case measure => simp [intOf]; omega
   ·obtain rfl : j = l.length := by omega
    have HV : Hid (X = true) := Lib.hid (by rw [HX.out, any_no (fun t ht => HN.out t ht ht)]; rfl)
    clear HX HN
    go_wp2_with fail
    go_ret
    rw [HV.out]; exact ⟨rfl, HB.out⟩
end Go.Proofs.YtngddecpfhlilaaGreat
