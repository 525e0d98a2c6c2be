/-
  Contracts of layer 13 (28): rises, Respect.
  Contracts of layer 13 (31): SameNums of the reference of layer 1.
  Lots (layer 13): the documentation's examples by their values, second part; what a walk over them keeps.
-/
import Derived.Test.YtngddecpfhlilaaGreatC34
import Derived.Test.YtngddecpfhlilaaGreatC22
import Derived.Test.YtngddecpfhlilaaGreatC12
import Derived.Shelf.Abstract
import Derived.BigQuiet
import Derived.Test.YtngddecpfhlilaaGreatC28
import Derived.Test.YtngddecpfhlilaaGreatC35
import Derived.Test.YtngddecpfhlilaaGreatC37
import Derived.Test.YtngddecpfhlilaaGreatC36
import Derived.Test.YtngddecpfhlilaaGreatC38
import Derived.Test.YtngddecpfhlilaaGreatC24
set_option linter.unusedVariables false
set_option maxRecDepth 100000
namespace Go.Proofs.YtngddecpfhlilaaGreat
open Go.RowKit
set_option maxHeartbeats 8000000 in
theorem zif_any (K : Nat) (eg : ∀ args w, (callFunc K args).run Tryz.prog w = .ok (.enter K args) w) (caps : Array Value) (p : Sl → Bool) (A : Option Addr) (cap : Nat) (l : List Sl) (w : World) (hl : SIn w A cap l)
    (hc : ∀ j (h : j < l.length) w', Below w.heap.size w w' → ∀ (QA : Option Addr) (QC : Nat), RIn w' QA QC l[j].ar → Calls Tryz.prog K (#[.agg #[.int .i64 l[j].z0, .int .i64 l[j].z1, .slice QA l[j].ar.length QC]] ++ caps) w' (BlIs (p l[j]) w')) :
    Calls Tryz.prog 173 #[.slice A l.length cap, .func (.func K) #[] caps] w (IxIs l p w) := by
  have HL := Lib.hid hl; clear hl
  have HC := Lib.hid hc; clear hc
  have HB0 := Lib.hid (Below.refl w.heap.size w)
  go_enter Tryz.func173, Tryz.ntmps173
  go_wp2
  go_loopw [8] (fun i wr => ∃ (k : Nat), k ≤ l.length ∧ i = .int .i64 k ∧ Hid (Below w.heap.size w wr) ∧ ∀ j (h : j < l.length), j < k → p l[j] = false) (fun i _ => l.length - (intOf i).toNat)
  case atStart => exact ⟨0, Nat.zero_le _, rfl, HB0, fun j h hj => absurd hj (Nat.not_lt_zero _)⟩
  case round =>
    clear HB0
    obtain ⟨k, hk, rfl, HB, ht⟩ := hrel
    have HT := Lib.hid ht; clear ht
    by_cases hlt : k < l.length
    · obtain ⟨ba, oa, rfl, hba, hva⟩ := HL.out.row (by omega)
      obtain ⟨x0, x1, QA, QC, x2, hq⟩ := hva k hlt
      clear hva
      have wc := fun o => HB.out.cell (p := ⟨ba, o, none⟩) hba
      have x0 := (wc _).trans x0; have x1 := (wc _).trans x1; have x2 := (wc _).trans x2
      clear wc
      have HQ := Lib.hid (fun w' hb => RIn.below (w' := w') hq hb); clear hq
      have HC2 := Lib.hid (HC.out k hlt)
      have hm := List.getElem_mem hlt
      have HTK := Lib.hid (fun (c : p l[k] = false) j (h : j < l.length) (hj : j < k + 1) => show p l[j] = false from by
          by_cases e : j < k
          · exact HT.out j h e
          · obtain rfl : j = k := by omega
            exact c)
      generalize l[k] = u at *
      have HYK := Lib.hid (fun c : p u = true => (⟨fun _ => ⟨u, hm, c⟩, fun _ => by omega⟩ : 0 ≤ (k : Int) ↔ ∃ x ∈ l, p x = true)); clear hm
      have i0 : (0 : Int) ≤ (k : Int) := by omega
      have i1 : (k : Int) < (l.length : Int) := by omega
      have hlen := HL.out.len
      have hbs := HB.out.size
      cases c : p u with
      | true =>
        have HY := Lib.hid (HYK.out c); clear HYK HTK
        have HCC : Hid (∀ w', Below w.heap.size w w' → Calls Tryz.prog K (#[.agg #[.int .i64 u.z0, .int .i64 u.z1, .slice QA u.ar.length QC]] ++ caps) w' (BlIs true w')) := Lib.hid (fun w' hb => by have := HC2.out w' hb QA QC (HQ.out w' hb); rw [c] at this; exact this)
        clear c HC2
        go_wp2_with (go_at_fn K; refine (HCC.out _ (by (repeat' first | exact Below.refl _ _ | assumption | (apply below_drewN) | (refine Below.setCell ?_ (by (try simp); (try omega)) _) | (refine Below.alloc ?_ (by (try simp); (try omega)) _) | (refine Below.trans ?_ (Below.mono (Hid.out (by assumption)) (by (try simp); (try omega))))))).mono ?_; rintro e w1 ⟨rfl, hb⟩; have HBl := Lib.hid hb; clear hb)
        go_ret
        exact ⟨_, rfl, HY.out, by (repeat' first | exact Below.refl _ _ | assumption | (apply below_drewN) | (refine Below.setCell ?_ (by (try simp); (try omega)) _) | (refine Below.alloc ?_ (by (try simp); (try omega)) _) | (refine Below.trans ?_ (Below.mono (Hid.out (by assumption)) (by (try simp); (try omega)))))⟩
      | false =>
        have HN := Lib.hid (HTK.out c); clear HYK HTK
        have HCC : Hid (∀ w', Below w.heap.size w w' → Calls Tryz.prog K (#[.agg #[.int .i64 u.z0, .int .i64 u.z1, .slice QA u.ar.length QC]] ++ caps) w' (BlIs false w')) := Lib.hid (fun w' hb => by have := HC2.out w' hb QA QC (HQ.out w' hb); rw [c] at this; exact this)
        clear c HC2
        go_wp2_with (go_at_fn K; refine (HCC.out _ (by (repeat' first | exact Below.refl _ _ | assumption | (apply below_drewN) | (refine Below.setCell ?_ (by (try simp); (try omega)) _) | (refine Below.alloc ?_ (by (try simp); (try omega)) _) | (refine Below.trans ?_ (Below.mono (Hid.out (by assumption)) (by (try simp); (try omega))))))).mono ?_; rintro e w1 ⟨rfl, hb⟩; have HBl := Lib.hid hb; clear hb)
        go_roundw
        case rel => exact ⟨k + 1, by omega, by go_num, Lib.hid (by (repeat' first | exact Below.refl _ _ | assumption | (apply below_drewN) | (refine Below.setCell ?_ (by (try simp); (try omega)) _) | (refine Below.alloc ?_ (by (try simp); (try omega)) _) | (refine Below.trans ?_ (Below.mono (Hid.out (by assumption)) (by (try simp); (try omega)))))), HN.out⟩
        case measure => simp [intOf]; omega
    · obtain rfl : k = l.length := by omega
      have HY : Hid (0 ≤ (-1 : Int) ↔ ∃ x ∈ l, p x = true) := Lib.hid ⟨fun h => absurd h (by decide), fun ⟨r, hr, h⟩ => by
        obtain ⟨j, hj, rfl⟩ := List.mem_iff_getElem.1 hr
        rw [HT.out j hj hj] at h; cases h⟩
      go_wp2
      go_ret
      exact ⟨_, rfl, HY.out, HB.out⟩
theorem zcf_any (K : Nat) (eg : ∀ args w, (callFunc K args).run Tryz.prog w = .ok (.enter K args) w) (caps : Array Value) (p : Sl → Bool) (A : Option Addr) (cap : Nat) (l : List Sl) (w : World) (hl : SIn w A cap l)
  (hc : ∀ j (h : j < l.length) w', Below w.heap.size w w' → ∀ (QA : Option Addr) (QC : Nat), RIn w' QA QC l[j].ar → Calls Tryz.prog K (#[.agg #[.int .i64 l[j].z0, .int .i64 l[j].z1, .slice QA l[j].ar.length QC]] ++ caps) w' (BlIs (p l[j]) w')) :
  Calls Tryz.prog 145 #[.slice A l.length cap, .func (.func K) #[] caps] w (BlIs (l.any p) w) := by
 have HI := Lib.hid (zif_any K eg caps p A cap l w hl hc)
 clear hl hc
 go_enter Tryz.func145, Tryz.ntmps145
 go_wp2_with fail
 refine HI.out.mono ?_
 rintro e w1 ⟨i, rfl, hi, hb⟩
 have HB1 := Lib.hid hb
 have HE : Hid (l.any p = decide (0 ≤ i)) := Lib.hid (by rw [Bool.eq_iff_iff, List.any_eq_true, decide_eq_true_iff]; exact hi.symm)
 clear hi hb HI
 go_wp2_with fail
 go_ret
 exact ⟨by rw [HE.out]; rfl, HB1.out⟩
def risB (top : Int) (ear : List Rc) (s : Sl) : Bool := decide (top < s.z1) && mtB s.ar ear
theorem eg_ri : ∀ args w, (callFunc 146 args).run Tryz.prog w = .ok (.enter 146 args) w := enters_of Tryz.func146 (by kernel_rfl) rfl
theorem risC_any (e : Es) (EA : Option Addr) (EC : Nat) (s : Sl) (QA : Option Addr) (QC : Nat) (pb : Nat) (w : World) (hs : RIn w QA QC s.ar) (he : RIn w EA EC e.ar) (hp : w.heap[pb]? = some (.cells #[.int .i64 e.lot, .slice EA e.ar.length EC, .int .i64 e.top] 63 (0, 0))) :
  Calls Tryz.prog 146 #[.agg #[.int .i64 s.z0, .int .i64 s.z1, .slice QA s.ar.length QC], .pointer (some ⟨pb, 0, none⟩)] w (BlIs (risB e.top e.ar s) w) := by
 have HM := Lib.hid (fun w' (hb : Below w.heap.size w w') => meet13_any QA QC EA EC s.ar e.ar w' (hs.below hb) (he.below hb))
 have hpl := (Array.getElem?_eq_some_iff.1 hp).1
 have x0 : w.cell? ⟨pb, 0, none⟩ = some (.int .i64 e.lot) := by rw [Lib.cell_of_heap hp]; rfl
 have x1 : w.cell? ⟨pb, 1, none⟩ = some (.slice EA e.ar.length EC) := by rw [Lib.cell_of_heap hp]; rfl
 have x2 : w.cell? ⟨pb, 2, none⟩ = some (.int .i64 e.top) := by rw [Lib.cell_of_heap hp]; rfl
 clear hs he hp
 unfold risB
 generalize mtB s.ar e.ar = z at *
 obtain ⟨lot, ear, top⟩ := e
 obtain ⟨z0, z1, sar⟩ := s
 simp only at HM x0 x1 x2 ⊢
 by_cases c : top < z1
 ·rw [decide_eq_true c, Bool.true_and]
  have e1 : decide (top < z1) = true := decide_eq_true c
  go_enter Tryz.func146, Tryz.ntmps146
  go_wp2_with fail
  refine (HM.out _ (by (repeat' first | exact Below.refl _ _ | assumption | (apply below_drewN) | (refine Below.setCell ?_ (by (try simp); (try omega)) _) | (refine Below.alloc ?_ (by (try simp); (try omega)) _) | (refine Below.trans ?_ (Below.mono (Hid.out (by assumption)) (by (try simp); (try omega))))))).mono ?_
  rintro e w1 ⟨rfl, hb⟩
  have HB := Lib.hid hb; clear hb
  go_wp2_with fail
  go_ret
  exact ⟨rfl, by (repeat' first | exact Below.refl _ _ | assumption | (apply below_drewN) | (refine Below.setCell ?_ (by (try simp); (try omega)) _) | (refine Below.alloc ?_ (by (try simp); (try omega)) _) | (refine Below.trans ?_ (Below.mono (Hid.out (by assumption)) (by (try simp); (try omega)))))⟩
 ·rw [decide_eq_false c, Bool.false_and]
  have e1 : decide (top < z1) = false := decide_eq_false c
  go_enter Tryz.func146, Tryz.ntmps146
  go_wp2_with fail
  go_ret
  exact ⟨rfl, by (repeat' first | exact Below.refl _ _ | assumption | (apply below_drewN) | (refine Below.setCell ?_ (by (try simp); (try omega)) _) | (refine Below.alloc ?_ (by (try simp); (try omega)) _) | (refine Below.trans ?_ (Below.mono (Hid.out (by assumption)) (by (try simp); (try omega)))))⟩
theorem rises_any (e : Es) (EA : Option Addr) (EC : Nat) (A : Option Addr) (cap : Nat) (S : List Sl) (w : World) (hS : SIn w A cap S) (he : RIn w EA EC e.ar) :
  Calls Tryz.prog 92 #[.slice A S.length cap, .agg #[.int .i64 e.lot, .slice EA e.ar.length EC, .int .i64 e.top]] w (BlIs (S.any (risB e.top e.ar)) w) := by
 have HC : Hid (∀ w' pb, Below w.heap.size w w' → w'.heap[pb]? = some (.cells #[.int .i64 e.lot, .slice EA e.ar.length EC, .int .i64 e.top] 63 (0, 0)) → Calls Tryz.prog 145 #[.slice A S.length cap, .func (.func 146) #[] #[.pointer (some ⟨pb, 0, none⟩)]] w' (BlIs (S.any (risB e.top e.ar)) w')) := Lib.hid (fun w' pb hb h1 => zcf_any 146 eg_ri #[.pointer (some ⟨pb, 0, none⟩)] (risB e.top e.ar) A cap S w' (hS.below hb) (fun j hj w2 hb2 QA QC hq => risC_any e EA EC S[j] QA QC pb w2 hq ((he.below hb).below hb2) ((hb2.block pb (Array.getElem?_eq_some_iff.1 h1).1).trans h1)))
 have hlen := hS.len
 clear hS he
 generalize S.any (risB e.top e.ar) = z at *
 have HI := Lib.hid (heap_alloc_new w (.cells #[.int .i64 e.lot, .slice EA e.ar.length EC, .int .i64 e.top] 63))
 have HB0 : Hid (Below w.heap.size w (w.alloc (.cells #[.int .i64 e.lot, .slice EA e.ar.length EC, .int .i64 e.top] 63))) := Lib.hid ((Below.refl _ _).alloc (Nat.le_refl _) _)
 go_enter Tryz.func92, Tryz.ntmps92
 go_wp2_with fail
 refine (HC.out _ _ HB0.out HI.out).mono ?_
 rintro e w1 ⟨rfl, hb⟩
 have HB1 := Lib.hid (HB0.out.trans (hb.mono HB0.out.size)); clear hb
 go_wp2_with fail
 go_ret
 exact ⟨rfl, HB1.out⟩
def EsRow (w : World) (A : Option Addr) (l : List Es) : Prop := 0 < l.length → ∃ b off, A = some ⟨b, off, none⟩ ∧ b < w.heap.size ∧ ∀ j (h : j < l.length), w.cell? ⟨b, off + j * 3, none⟩ = some (.int .i64 l[j].lot) ∧ w.cell? ⟨b, off + j * 3 + 2, none⟩ = some (.int .i64 l[j].top) ∧ ∃ Aj cj, w.cell? ⟨b, off + j * 3 + 1, none⟩ = some (.slice Aj l[j].ar.length cj) ∧ RIn w Aj cj l[j].ar
structure EsIn (w : World) (A : Option Addr) (cap : Nat) (l : List Es) : Prop where
 row : EsRow w A l
 len : l.length ≤ 1099511627776
 room : l.length ≤ cap
 room2 : cap ≤ 9223372036854775807
noncomputable def solB13 (S : List Sl) : Bool := @decide (SolP S) (Classical.propDecidable _)
noncomputable def esB (k : Int) (S : List Sl) (e : Es) : Bool := decide (e.lot = k) && rgB e.ar && S.any (risB e.top e.ar)
noncomputable def respB (l : List Es) (k : Int) (S : List Sl) : Bool := solB13 S && !(l.any (esB k S))
theorem sol_any (A : Option Addr) (cap : Nat) (S : List Sl) (w : World) (h : SIn w A cap S) : Calls Tryz.prog 91 #[.slice A S.length cap] w (BlIs (solB13 S) w) := by
 by_cases c : SolP S
 ·rw [show solB13 S = true from @decide_eq_true _ (Classical.propDecidable _) c]; exact bright_yes h c
 ·rw [show solB13 S = false from @decide_eq_false _ (Classical.propDecidable _) c]; exact bright_no h c
theorem any_at {l : List Es} {p : Es → Bool} {k : Nat} (hk : k < l.length) (h : p l[k] = true) : l.any p = true := List.any_eq_true.2 ⟨_, List.getElem_mem hk, h⟩
theorem any_no {l : List Es} {p : Es → Bool} (h : ∀ j (hj : j < l.length), p l[j] = false) : l.any p = false := by
 cases hc : l.any p
 ·rfl
 ·obtain ⟨e, he, h2⟩ := List.any_eq_true.1 hc
  obtain ⟨j, hj, rfl⟩ := List.getElem_of_mem he
  rw [h j hj] at h2; exact absurd h2 (by simp)
set_option maxHeartbeats 16000000 in
theorem respect_any (A : Option Addr) (cap : Nat) (l : List Es) (k : Int) (AS : Option Addr) (cs : Nat) (S : List Sl) (w : World) (h : EsIn w A cap l) (hS : SIn w AS cs S) :
  Calls Tryz.prog 38 #[.slice A l.length cap, .int .i64 k, .slice AS S.length cs] w (BlIs (respB l k S) w) := by
 have HSO := Lib.hid (sol_any AS cs S w hS)
 have HRI := Lib.hid (fun (e : Es) EA EC w' (hb : Below w.heap.size w w') (he : RIn w' EA EC e.ar) => rises_any e EA EC AS cs S w' (hS.below hb) he)
 have HRG := Lib.hid (fun EA EC ar w' (he : RIn w' EA EC ar) => rg_any EA EC ar w' he)
 have hlen := h.len
 have HROW := Lib.hid h.row
 have hslen := hS.len
 clear h hS
 have HX : Hid (respB l k S = (solB13 S && !(l.any (esB k S)))) := Lib.hid rfl
 generalize respB l k S = X at *
 generalize solB13 S = so at *
 go_enter Tryz.func38, Tryz.ntmps38
 go_wp2_with fail
 refine HSO.out.mono ?_
 rintro e w1 ⟨rfl, hb1⟩
 have HB1 := Lib.hid hb1; clear hb1
 cases so
 ·have HV : Hid (X = false) := Lib.hid (by rw [HX.out]; rfl)
  clear HX
  go_wp2_with fail
  go_ret
  rw [HV.out]; exact ⟨rfl, HB1.out⟩
 ·go_wp2_with fail
  go_loopw [14] (fun i wr => ∃ (j : Nat), j ≤ l.length ∧ i = .int .i64 j ∧ Hid (∀ t (ht : t < l.length), t < j → esB k S l[t] = false) ∧ Hid (Below w.heap.size w wr)) (fun i _ => l.length - (intOf i).toNat)
  case atStart => exact ⟨0, Nat.zero_le _, rfl, Lib.hid (fun t ht h => by omega), HB1⟩
  case round =>
   clear HB1
   obtain ⟨j, hj, rfl, HN, HB⟩ := hrel
   by_cases hlt : j < l.length
   ·obtain ⟨b, o, rfl, hb, hc⟩ := HROW.out (by omega)
    obtain ⟨x0, x2, EA, EC, x1, hr⟩ := hc j hlt
    have wc := fun o => HB.out.cell (p := ⟨b, o, none⟩) hb
    have x0 := (wc _).trans x0; have x1 := (wc _).trans x1; have x2 := (wc _).trans x2
    have HRR := Lib.hid (fun w' (hb : Below w.heap.size w w') => hr.below hb)
    have n0 : (0 : Int) ≤ (j : Int) := by omega
    have n1 : (j : Int) < (l.length : Int) := by omega
    have HAT := Lib.hid (fun (c : esB k S l[j] = true) => any_at hlt c)
    have HNX : Hid (esB k S l[j] = false → ∀ t (ht : t < l.length), t < j + 1 → esB k S l[t] = false) := Lib.hid (fun hne t ht htj => by
     by_cases e : t = j
     ·subst e; exact hne
     ·exact HN.out t ht (by omega))
    clear hc hr HN wc
    unfold esB at HAT HNX
    have HRI2 := Lib.hid (HRI.out l[j])
    generalize hu : l[j] = u at *
    clear hu
    obtain ⟨lot, ear, top⟩ := u
    simp only at x0 x1 x2 HAT HNX HRI2 HRR
    have hba : Below wr.heap.size wr (wr.alloc (.cells #[.int .i64 lot, .slice EA ear.length EC, .int .i64 top] 63)) := (Below.refl _ _).alloc (Nat.le_refl _) _
    have HBA := Lib.hid (HB.out.trans (hba.mono HB.out.size))
    have HI := Lib.hid (heap_alloc_new wr (.cells #[.int .i64 lot, .slice EA ear.length EC, .int .i64 top] 63))
    have hws : wr.heap.size < (wr.alloc (.cells #[.int .i64 lot, .slice EA ear.length EC, .int .i64 top] 63)).heap.size := by rw [World.size_alloc]; omega
    clear hba
    have HRG2 := Lib.hid (fun EA EC w' (he : RIn w' EA EC ear) => rg_any EA EC ear w' he)
    clear HRI HRG
    generalize rgB ear = rg at *
    generalize S.any (risB top ear) = ri at *
    by_cases c0 : lot = k
    ·have e0 : (lot == k) = true := by simpa using c0
     have C0 := Lib.hid c0; clear c0
     go_wp2_with fail
     refine (HRG2.out _ _ _ (HRR.out _ HBA.out)).mono ?_
     rintro e w5 ⟨rfl, hb5⟩
     have HB5 := Lib.hid (HBA.out.trans (hb5.mono HBA.out.size))
     have HI5 := Lib.hid ((hb5.block wr.heap.size hws).trans HI.out)
     clear hb5 hws
     cases rg
     ·have HN2 := Lib.hid (HNX.out (by simp))
      clear HNX HAT HRI2
      go_wp2_with fail
      go_roundw
      case rel => exact ⟨j + 1, by omega, by go_num, HN2, HB5⟩
      case measure => simp [intOf]; omega
     ·have y0 : w5.cell? ⟨wr.heap.size, 0, none⟩ = some (.int .i64 lot) := by rw [Lib.cell_of_heap HI5.out]; rfl
      have y1 : w5.cell? ⟨wr.heap.size, 1, none⟩ = some (.slice EA ear.length EC) := by rw [Lib.cell_of_heap HI5.out]; rfl
      have y2 : w5.cell? ⟨wr.heap.size, 2, none⟩ = some (.int .i64 top) := by rw [Lib.cell_of_heap HI5.out]; rfl
      have yl := (Array.getElem?_eq_some_iff.1 HI5.out).1
      clear x0 x1 x2
      go_wp2_with fail
      refine (HRI2.out EA EC _ HB5.out (HRR.out _ HB5.out)).mono ?_
      rintro e w6 ⟨rfl, hb6⟩
      have HB6 := Lib.hid (HB5.out.trans (hb6.mono HB5.out.size)); clear hb6
      cases ri
      ·have HN2 := Lib.hid (HNX.out (by simp))
       clear HNX HAT
       go_wp2_with fail
       go_roundw
       case rel => exact ⟨j + 1, by omega, by go_num, HN2, HB6⟩
       case measure => simp [intOf]; omega
      ·have HV : Hid (X = false) := Lib.hid (by rw [HX.out]; unfold esB; rw [HAT.out (by simp [C0.out])]; rfl)
       clear HX HNX HAT
       go_wp2_with fail
       go_ret
       rw [HV.out]; exact ⟨rfl, HB6.out⟩
    ·have e0 : (lot == k) = false := by simpa using c0
     have HN2 := Lib.hid (HNX.out (by simp [c0]))
     clear HNX HAT HRI2 HRG2
     go_wp2_with fail
     go_roundw
     case rel => exact ⟨j + 1, by omega, by go_num, HN2, HBA⟩
     case measure => simp [intOf]; omega
   ·obtain rfl : j = l.length := by omega
    have HV : Hid (X = true) := Lib.hid (by rw [HX.out, any_no (fun t ht => HN.out t ht ht)]; rfl)
    clear HX HN
    go_wp2_with fail
    go_ret
    rw [HV.out]; exact ⟨rfl, HB.out⟩
end Go.Proofs.YtngddecpfhlilaaGreat
namespace Go.Proofs.YtngddecpfhlilaaGreat
open Go.RowKit
set_option maxHeartbeats 8000000 in
theorem snums_any (A1 : Option Addr) (c1 : Nat) (A2 : Option Addr) (c2 : Nat) (a b : List Int) (w : World) (ha : NIn w A1 c1 a) (hb : NIn w A2 c2 b) : Calls Tryz.prog 19 #[.slice A1 a.length c1, .slice A2 b.length c2] w (BlIs (decide (a = b)) w) := by
 have HA := Lib.hid ha; have HBB := Lib.hid hb; clear ha hb
 have hla := HA.out.len
 have hlb := HBB.out.len
 by_cases hn : a.length = b.length
 ·have HNO : Hid (∀ k (h1 : k < a.length) (h2 : k < b.length), a[k] ≠ b[k] → decide (a = b) = false) := Lib.hid (fun k h1 h2 hne => decide_eq_false (fun e => hne (by subst e; rfl)))
  have HYES : Hid ((∀ j (h1 : j < a.length) (h2 : j < b.length), a[j] = b[j]) → decide (a = b) = true) := Lib.hid (fun h => decide_eq_true (List.ext_getElem hn (fun j h1 h2 => h j h1 h2)))
  generalize decide (a = b) = X at *
  obtain ⟨n, hna⟩ : ∃ n, n = a.length := ⟨_, rfl⟩
  rw [← hna] at hn ⊢
  rw [← hn]
  have HNA := Lib.hid hna.symm; have HNB := Lib.hid hn.symm
  have hnn : n ≤ 1099511627776 := by omega
  clear hna hn hla hlb
  go_enter Tryz.func19, Tryz.ntmps19
  go_wp2_with fail
  go_loopw [5] (fun i wr => ∃ (k : Nat), k ≤ n ∧ i = .int .i64 k ∧ Hid (∀ j (h1 : j < a.length) (h2 : j < b.length), j < k → a[j] = b[j]) ∧ Hid (Below w.heap.size w wr)) (fun i _ => n - (intOf i).toNat)
  case atStart => exact ⟨0, Nat.zero_le _, rfl, Lib.hid (fun j h1 h2 h => by omega), Lib.hid (Below.refl _ _)⟩
  case round =>
   obtain ⟨k, hk, rfl, HN, HB⟩ := hrel
   by_cases hlt : k < n
   ·have hk1 : k < a.length := by rw [HNA.out]; exact hlt
    have hk2 : k < b.length := by rw [HNB.out]; exact hlt
    obtain ⟨b1, o1, rfl, hb1, hv1⟩ := HA.out.row (by omega)
    obtain ⟨b2, o2, rfl, hb2, hv2⟩ := HBB.out.row (by omega)
    have x0 := (HB.out.cell (p := ⟨b1, o1 + k, none⟩) hb1).trans (hv1 k hk1)
    have y0 := (HB.out.cell (p := ⟨b2, o2 + k, none⟩) hb2).trans (hv2 k hk2)
    have n0 : (0 : Int) ≤ (k : Int) := by omega
    have n1 : (k : Int) < (n : Int) := by omega
    have HNE := Lib.hid (HNO.out k hk1 hk2)
    have HNX : Hid (a[k] = b[k] → ∀ j (h1 : j < a.length) (h2 : j < b.length), j < k + 1 → a[j] = b[j]) := Lib.hid (fun he j h1 h2 hj => by
     by_cases e : j = k
     ·subst e; exact he
     ·exact HN.out j h1 h2 (by omega))
    clear HN HNO hv1 hv2
    generalize a[k] = u at *
    generalize b[k] = v at *
    clear hk1 hk2
    by_cases c : u = v
    ·have HN2 := Lib.hid (HNX.out c)
     have e0 : (u != v) = false := by simpa using c
     clear HNX HNE c
     go_wp2_with fail
     go_quiet (fail)
     go_wp2_with fail
     go_roundw
     case rel => exact ⟨k + 1, by omega, by go_num, HN2, Lib.hid (by (repeat' first | exact Below.refl _ _ | assumption | (apply below_drewN) | (refine Below.setCell ?_ (by (try simp); (try omega)) _) | (refine Below.alloc ?_ (by (try simp); (try omega)) _) | (refine Below.trans ?_ (Below.mono (Hid.out (by assumption)) (by (try simp); (try omega))))))⟩
     case measure => simp [intOf]; omega
    ·have HV := Lib.hid (HNE.out c)
     have e0 : (u != v) = true := by simpa using c
     clear HNX HNE c
     go_wp2_with fail
     go_quiet (fail)
     go_wp2_with fail
     go_ret
     rw [HV.out]; exact ⟨rfl, by (repeat' first | exact Below.refl _ _ | assumption | (apply below_drewN) | (refine Below.setCell ?_ (by (try simp); (try omega)) _) | (refine Below.alloc ?_ (by (try simp); (try omega)) _) | (refine Below.trans ?_ (Below.mono (Hid.out (by assumption)) (by (try simp); (try omega)))))⟩
   ·obtain rfl : k = n := by omega
    have HV := Lib.hid (HYES.out (fun j h1 h2 => HN.out j h1 h2 (by rw [← HNA.out]; exact h1)))
    go_wp2_with fail
    go_ret
    rw [HV.out]; exact ⟨rfl, HB.out⟩
 ·have HV := Lib.hid (decide_eq_false (fun e : a = b => hn (by rw [e])))
  have e0 : ((a.length : Int) != (b.length : Int)) = true := by simp; omega
  have HN := Lib.hid hn; clear hn
  go_enter Tryz.func19, Tryz.ntmps19
  go_wp2_with fail
  go_ret
  rw [HV.out]; exact ⟨rfl, Below.refl _ _⟩
end Go.Proofs.YtngddecpfhlilaaGreat
namespace Go.Proofs.YtngddecpfhlilaaGreat
open Go.RowKit
instance : DecidableEq Sl := fun a b => decidable_of_iff (a.z0 = b.z0 ∧ a.z1 = b.z1 ∧ a.ar = b.ar) ⟨fun h => Sl.eq h.1 h.2.1 h.2.2, fun h => by subst h; exact ⟨rfl, rfl, rfl⟩⟩
theorem rg_one {r : Rc} (h : ROk r) : rgB [r] = true := (rgB_iff _).2 (one_reg h)
theorem split_yes13 : splitM landB rgB oneB [T1, T2] 1 [⟨0, 0, 1, 9⟩] 3 4 = ([T2, T3, T4], 0) := split_3 rgB (rg_one ok_19)
theorem split_no13 : splitM landB rgB oneB [T1, T2] 1 [⟨1, 0, 2, 2⟩] 3 4 = ([], 12) := split_no rgB (rg_one ok_12)
theorem form_24 : formL (cellsR [T2, T4]) = [⟨1, 0, 6, 2⟩] := by
 show formL [⟨4, 0, 6, 2⟩, ⟨1, 0, 4, 2⟩] = _
 decide +kernel
theorem line_24 : lineS [T2, T4] = [1, 2, 4] := by
 show sortS [2, 4, 1] = _
 decide
theorem join_5 : joinG [T2, T3, T4] (sortS [4, 2]) 2 5 = ([T3, T5], 0) := by
 rw [show sortS [4, 2] = [2, 4] by decide]
 unfold joinG
 rw [land_3, show findAll [T2, T3, T4] [2, 4] = some [T2, T4] from rfl]
 simp only
 rw [form_24, one_part ok_16, line_24]
 rw [if_neg (by decide), if_neg (by decide), if_neg (by decide), if_neg (by decide), if_neg (by decide)]
 rfl
theorem gap_12 : gapM T1.ar T2.ar = (0, true) := by
 unfold gapM
 rw [if_pos ⟨one_reg ok_42, one_reg ok_46, by simp [T1], by simp [T2]⟩]
 decide +kernel
theorem near_2 : sortS (nrL ((findL [T1, T2] 1).getD lt0) 1 0 [T1, T2]) = [2] := by
 rw [show (findL [T1, T2] 1).getD lt0 = T1 from rfl]
 have h1 : nrB T1 1 0 T1 = false := by
  unfold nrB
  rw [show decide (T1.id ≠ 1) = false by decide, Bool.and_false]
 have h2 : nrB T1 1 0 T2 = true := by
  unfold nrB
  rw [gap_12]
  decide
 unfold nrL
 rw [List.filter_cons, if_neg (by rw [h1]; simp), List.filter_cons, if_pos h2]
 decide
def BX13 : List Bx := [⟨⟨0, 0, 2, 2⟩, 0, 4⟩]
def S13 : List Sl := [⟨0, 4, [⟨0, 0, 2, 2⟩]⟩]
def E13 : List Es := [⟨1, [⟨0, 0, 1, 1⟩], 3⟩]
theorem ex_13 : ofS BX13 = (S13, 0) := by decide +kernel
theorem sol_of {l : List Bx} {F : List Sl} (h : ofS l = (F, 0)) : SolP F ∧ F = solB l ∧ (∀ b ∈ l, BOk b) ∧ l.length ≤ 200 := by
 unfold ofS at h
 by_cases c : ∀ b ∈ l, BOk b
 ·rw [if_pos c] at h
  by_cases d : l.length ≤ 200
  ·rw [if_pos d] at h
   unfold capS at h
   by_cases q : (solB l).length ≤ 80 ∧ ∀ s ∈ solB l, s.ar.length ≤ 200
   ·rw [if_pos q] at h
    injection h with h _
    subst h
    exact ⟨⟨(solB_is c).1, q.1, q.2⟩, rfl, c, d⟩
   ·rw [if_neg q] at h
    injection h with _ h
    cases h
  ·rw [if_neg d] at h
   injection h with _ h
   cases h
 ·rw [if_neg c] at h
  injection h with _ h
  cases h
theorem solB_of {S : List Sl} (h : SolP S) : solB13 S = true := @decide_eq_true _ (Classical.propDecidable _) h
theorem resp_1 : respB E13 1 S13 = false := by
 unfold respB
 rw [solB_of (sol_of ex_13).1]
 have : E13.any (esB 1 S13) = true := by
  refine List.any_eq_true.2 ⟨_, List.mem_cons_self, ?_⟩
  unfold esB
  rw [rg_one (by decide)]
  decide
 rw [this]; rfl
theorem resp_2 : respB E13 2 S13 = true := by
 unfold respB
 rw [solB_of (sol_of ex_13).1]
 have : E13.any (esB 2 S13) = false := by
  rw [List.any_eq_false]
  intro e he
  obtain rfl := List.mem_singleton.1 he
  unfold esB
  rw [show decide ((1 : Int) = 2) = false by decide]
  simp
 rw [this]; rfl
def lvc (x : Lt × LtP) : List Value := [.int .i64 x.1.id, .int .i64 x.1.ow, .slice x.2.A x.1.ar.length x.2.c, .slice x.2.B x.1.fr.length x.2.d]
def lvcells (L : List (Lt × LtP)) : List Value := L.flatMap lvc
theorem lvcells_at : ∀ (L : List (Lt × LtP)) (j : Nat) (h : j < L.length), (lvcells L)[j * 4]? = some (.int .i64 L[j].1.id) ∧ (lvcells L)[j * 4 + 1]? = some (.int .i64 L[j].1.ow) ∧ (lvcells L)[j * 4 + 2]? = some (.slice L[j].2.A L[j].1.ar.length L[j].2.c) ∧ (lvcells L)[j * 4 + 3]? = some (.slice L[j].2.B L[j].1.fr.length L[j].2.d)
 | [], j, h => absurd h (Nat.not_lt_zero _)
 | x :: L, 0, h => ⟨rfl, rfl, rfl, rfl⟩
 | x :: L, j + 1, h => by
  have ih := lvcells_at L j (by simp at h; omega)
  have e : lvcells (x :: L) = lvc x ++ lvcells L := rfl
  have hl : (lvc x).length = 4 := rfl
  rw [e]
  refine ⟨?_, ?_, ?_, ?_⟩
  ·rw [List.getElem?_append_right (by rw [hl]; omega), hl, show (j + 1) * 4 - 4 = j * 4 by omega]; exact ih.1
  ·rw [List.getElem?_append_right (by rw [hl]; omega), hl, show (j + 1) * 4 + 1 - 4 = j * 4 + 1 by omega]; exact ih.2.1
  ·rw [List.getElem?_append_right (by rw [hl]; omega), hl, show (j + 1) * 4 + 2 - 4 = j * 4 + 2 by omega]; exact ih.2.2.1
  ·rw [List.getElem?_append_right (by rw [hl]; omega), hl, show (j + 1) * 4 + 3 - 4 = j * 4 + 3 by omega]; exact ih.2.2.2
theorem lit_lots (w : World) (L : List (Lt × LtP)) (hL : ∀ x ∈ L, LtI w x.1 x.2) (o : Array Value) (ho : o = (lvcells L).toArray) (k : Nat) (hk : k = w.heap.size) (hl : L.length ≤ 1000) : LtIn (w.alloc (.cells o 40)) (some ⟨k, 0, none⟩) L.length (L.map (·.1)) := by
 subst ho; subst hk
 have h0 := heap_alloc_new w (.cells (lvcells L).toArray 40)
 refine ⟨fun _ => ⟨_, 0, rfl, (Array.getElem?_eq_some_iff.1 h0).1, fun j hj => ?_⟩, by rw [List.length_map]; omega, by rw [List.length_map]; omega, by omega⟩
 rw [List.length_map] at hj
 obtain ⟨e0, e1, e2, e3⟩ := lvcells_at L j hj
 have e : (L.map (·.1))[j]'(by rw [List.length_map]; exact hj) = L[j].1 := by simp
 rw [Nat.zero_add, e]
 have c := fun i v (hv : (lvcells L)[i]? = some v) => show (w.alloc (.cells (lvcells L).toArray 40)).cell? ⟨w.heap.size, i, none⟩ = some v by
  rw [Lib.cell_of_heap h0]; simpa using hv
 exact ⟨L[j].2, ⟨c _ _ e0, c _ _ e1, c _ _ e2, c _ _ e3⟩, (hL _ (List.getElem_mem hj)).below ((Below.refl _ _).alloc (Nat.le_refl _) _)⟩
theorem lit_nums (w : World) (l : List Int) (o : Array Value) (ho : o = (l.map (Value.int .i64)).toArray) (k : Nat) (hk : k = w.heap.size) (hl : l.length ≤ 1000) : NIn (w.alloc (.cells o 3)) (some ⟨k, 0, none⟩) l.length l := by
 subst ho; subst hk
 have h0 := heap_alloc_new w (.cells (l.map (Value.int .i64)).toArray 3)
 refine ⟨fun _ => ⟨_, 0, rfl, (Array.getElem?_eq_some_iff.1 h0).1, fun j hj => ?_⟩, by omega, by omega, by omega⟩
 rw [Lib.cell_of_heap h0, Nat.zero_add]
 simp [hj]
theorem lit_box13 (w : World) (b : Bx) (k : Nat) (hk : k = w.heap.size) : BxRow (w.alloc (.cells #[.int .i64 b.r.X0, .int .i64 b.r.Y0, .int .i64 b.r.X1, .int .i64 b.r.Y1, .int .i64 b.z0, .int .i64 b.z1] 70)) (some ⟨k, 0, none⟩) [b] := fun _ => by
 subst hk
 have h0 := heap_alloc_new w (.cells #[.int .i64 b.r.X0, .int .i64 b.r.Y0, .int .i64 b.r.X1, .int .i64 b.r.Y1, .int .i64 b.z0, .int .i64 b.z1] 70)
 refine ⟨_, 0, rfl, (Array.getElem?_eq_some_iff.1 h0).1, fun j hj => ?_⟩
 obtain rfl : j = 0 := by simp at hj; exact hj
 refine ⟨?_, ?_, ?_, ?_, ?_, ?_⟩ <;> (rw [Lib.cell_of_heap h0]; rfl)
theorem lit_ease (w : World) (e : Es) (A : Option Addr) (c : Nat) (h : RIn w A c e.ar) (k : Nat) (hk : k = w.heap.size) {n : Nat} (hn : n = e.ar.length) : EsIn (w.alloc (.cells #[.int .i64 e.lot, .slice A n c, .int .i64 e.top] 63)) (some ⟨k, 0, none⟩) 1 [e] := by
 subst hk; subst hn
 have h0 := heap_alloc_new w (.cells #[.int .i64 e.lot, .slice A e.ar.length c, .int .i64 e.top] 63)
 refine ⟨fun _ => ⟨_, 0, rfl, (Array.getElem?_eq_some_iff.1 h0).1, fun j hj => ?_⟩, by simp, by simp, by omega⟩
 obtain rfl : j = 0 := by simp at hj; exact hj
 exact ⟨by rw [Lib.cell_of_heap h0]; rfl, by rw [Lib.cell_of_heap h0]; rfl, A, c, by rw [Lib.cell_of_heap h0]; rfl, h.below ((Below.refl _ _).alloc (Nat.le_refl _) _)⟩
def Fut (w : World) (P : World → Prop) : Prop := ∀ w', Below w.heap.size w w' → P w'
theorem Fut.go {w w1 : World} {P : World → Prop} (h : Fut w P) (hb : Below w.heap.size w w1) : Fut w1 P := fun w' hb' => h w' (hb.trans (hb'.mono hb.size))
theorem Fut.now {w : World} {P : World → Prop} (h : Fut w P) : P w := h w (Below.refl _ _)
theorem LtIn.fut {w : World} {A : Option Addr} {c : Nat} {L : List Lt} (h : LtIn w A c L) : Fut w (fun w' => LtIn w' A c L) := fun w' hb => h.below hb
theorem RIn.fut {w : World} {A : Option Addr} {c : Nat} {l : List Rc} (h : RIn w A c l) : Fut w (fun w' => RIn w' A c l) := fun w' hb => h.below hb
theorem NIn.fut {w : World} {A : Option Addr} {c : Nat} {l : List Int} (h : NIn w A c l) : Fut w (fun w' => NIn w' A c l) := fun w' hb => h.below hb
theorem SIn.fut {w : World} {A : Option Addr} {c : Nat} {l : List Sl} (h : SIn w A c l) : Fut w (fun w' => SIn w' A c l) := fun w' hb => h.below hb
theorem EsIn.below {w w' : World} {A : Option Addr} {c : Nat} {l : List Es} (h : EsIn w A c l) (hb : Below w.heap.size w w') : EsIn w' A c l := ⟨fun h0 => by
 obtain ⟨b, off, e, hl, hc⟩ := h.row h0
 refine ⟨b, off, e, Nat.lt_of_lt_of_le hl hb.size, fun j hj => ?_⟩
 obtain ⟨e0, e1, Aj, cj, e2, e3⟩ := hc j hj
 exact ⟨(hb.cell (p := ⟨b, _, none⟩) hl).trans e0, (hb.cell (p := ⟨b, _, none⟩) hl).trans e1, Aj, cj, (hb.cell (p := ⟨b, _, none⟩) hl).trans e2, e3.below hb⟩, h.len, h.room, h.room2⟩
theorem EsIn.fut {w : World} {A : Option Addr} {c : Nat} {l : List Es} (h : EsIn w A c l) : Fut w (fun w' => EsIn w' A c l) := fun w' hb => h.below hb
def Kp (Ps : List (World → Prop)) (w0 w : World) : Prop := (∀ P ∈ Ps, Fut w P) ∧ Below w0.heap.size w0 w
theorem Kp.start (w : World) : Kp [] w w := ⟨fun P hP => (nomatch hP), Below.refl _ _⟩
theorem Kp.go {Ps : List (World → Prop)} {w0 w w' : World} (h : Kp Ps w0 w) (hb : Below w.heap.size w w') : Kp Ps w0 w' := ⟨fun P hP => (h.1 P hP).go hb, h.2.trans (hb.mono h.2.size)⟩
theorem Kp.add {Ps : List (World → Prop)} {w0 w w' : World} {P : World → Prop} (h : Kp Ps w0 w) (hb : Below w.heap.size w w') (hP : Fut w' P) : Kp (P :: Ps) w0 w' := by
 have h2 := h.go hb
 refine ⟨fun Q hQ => ?_, h2.2⟩
 rcases List.mem_cons.1 hQ with rfl | hQ
 ·exact hP
 ·exact h2.1 Q hQ
theorem Kp.nth {Ps : List (World → Prop)} {w0 w : World} {P : World → Prop} (h : Kp Ps w0 w) (i : Nat) (hi : Ps[i]? = some P) : P w := (h.1 P (List.mem_of_getElem? hi)).now
end Go.Proofs.YtngddecpfhlilaaGreat
