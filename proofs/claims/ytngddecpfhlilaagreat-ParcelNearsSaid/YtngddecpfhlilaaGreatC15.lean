/-
  Contracts of the program's layer 9, 2: Right.
-/
import Derived.Test.YtngddecpfhlilaaGreatC12
import Derived.BigQuiet
import Derived.Deep.RegionHeld3
set_option linter.unusedVariables false
set_option maxRecDepth 100000
namespace Go.Proofs.YtngddecpfhlilaaGreat
open Go.RowKit
theorem sform_of : ∀ {S : List Sl}, (∀ j (h : j < S.length), SlOk S[j]) → (∀ j (h : j + 1 < S.length), SlB S[j] S[j + 1]) → SForm S := by
 intro S
 induction S with
 | nil => intro _ _; trivial
 | cons s S ih =>
  intro h1 h2
  have k := ih (fun j hj => by have := h1 (j + 1) (by simp; omega); simpa using this) (fun j hj => by have := h2 (j + 1) (by simp; omega); simpa using this)
  cases S with
  | nil => exact h1 0 (by simp)
  | cons u S => exact ⟨h1 0 (by simp), by have := h2 0 (by simp); simpa using this, k⟩
theorem sform_pair : ∀ {S : List Sl}, SForm S → ∀ j (h : j + 1 < S.length), SlB S[j] S[j + 1] := by
 intro S
 induction S with
 | nil => intro _ j h; exact absurd h (by simp)
 | cons s S ih =>
  intro hS j h
  cases S with
  | nil => exact absurd h (by simp)
  | cons u S =>
   cases j with
   | zero => exact hS.2.1
   | succ j => have := ih hS.2.2 j (by simp at h ⊢; omega); simpa using this
def SRightIs (S : List Sl) (w : World) (e : Ending) (w' : World) : Prop := ∃ b : Bool, (b = true ↔ SolP S) ∧ BlIs b w e w'
def SlAt (w : World) (p : Nat) (u : Sl) (A : Option Addr) (c : Nat) : Prop := w.heap[p]? = some (.cells #[.int .i64 u.z0, .int .i64 u.z1, .slice A u.ar.length c] 153 (0, 0))
theorem SlAt.lt {w : World} {p : Nat} {u : Sl} {A : Option Addr} {c : Nat} (h : SlAt w p u A c) : p < w.heap.size := (Array.getElem?_eq_some_iff.1 h).1
theorem SlAt.c0 {w : World} {p : Nat} {u : Sl} {A : Option Addr} {c : Nat} (h : SlAt w p u A c) : w.cell? ⟨p, 0, none⟩ = some (.int .i64 u.z0) := by rw [Lib.cell_of_heap h]; rfl
theorem SlAt.c1 {w : World} {p : Nat} {u : Sl} {A : Option Addr} {c : Nat} (h : SlAt w p u A c) : w.cell? ⟨p, 1, none⟩ = some (.int .i64 u.z1) := by rw [Lib.cell_of_heap h]; rfl
theorem SlAt.c2 {w : World} {p : Nat} {u : Sl} {A : Option Addr} {c : Nat} (h : SlAt w p u A c) : w.cell? ⟨p, 2, none⟩ = some (.slice A u.ar.length c) := by rw [Lib.cell_of_heap h]; rfl
theorem SlAt.below {w w' : World} {p : Nat} {u : Sl} {A : Option Addr} {c : Nat} (h : SlAt w p u A c) (hb : Below w.heap.size w w') : SlAt w' p u A c := (hb.block p h.lt).trans h
theorem SlAt.new (w : World) (u : Sl) (A : Option Addr) (c : Nat) (n : Nat) (hn : n = u.ar.length) : SlAt (w.alloc (.cells #[.int .i64 u.z0, .int .i64 u.z1, .slice A n c] 153)) w.heap.size u A c := by subst hn; exact heap_alloc_new w _
def Rx (p b o : Nat) (u v : Sl) (A1 : Option Addr) (c1 : Nat) (A2 : Option Addr) (c2 : Nat) (w0 w : World) : Prop := w.cell? ⟨p, 0, none⟩ = some (.int .i64 u.z0) ∧ w.cell? ⟨p, 1, none⟩ = some (.int .i64 u.z1) ∧ w.cell? ⟨p, 2, none⟩ = some (.slice A1 u.ar.length c1) ∧ w.cell? ⟨b, o, none⟩ = some (.int .i64 v.z0) ∧ w.cell? ⟨b, o + 1, none⟩ = some (.int .i64 v.z1) ∧ w.cell? ⟨b, o + 2, none⟩ = some (.slice A2 v.ar.length c2) ∧ p < w.heap.size ∧ b < w.heap.size ∧ Hid (Below w0.heap.size w0 w)
theorem Rx.go {p b o : Nat} {u v : Sl} {A1 : Option Addr} {c1 : Nat} {A2 : Option Addr} {c2 : Nat} {w0 w w' : World} (h : Rx p b o u v A1 c1 A2 c2 w0 w) (hb : Below w.heap.size w w') : Rx p b o u v A1 c1 A2 c2 w0 w' := by
 obtain ⟨h0, h1, h2, h3, h4, h5, h6, h7, h8⟩ := h
 have cp := fun i => hb.cell (p := ⟨p, i, none⟩) h6
 have cb := fun i => hb.cell (p := ⟨b, i, none⟩) h7
 exact ⟨(cp _).trans h0, (cp _).trans h1, (cp _).trans h2, (cb _).trans h3, (cb _).trans h4, (cb _).trans h5, Nat.lt_of_lt_of_le h6 hb.size, Nat.lt_of_lt_of_le h7 hb.size, Lib.hid (h8.out.trans (hb.mono h8.out.size))⟩
theorem Rx.drewN {p b o : Nat} {u v : Sl} {A1 : Option Addr} {c1 : Nat} {A2 : Option Addr} {c2 : Nat} {w0 w : World} (h : Rx p b o u v A1 c1 A2 c2 w0 w) (n : Nat) : Rx p b o u v A1 c1 A2 c2 w0 (w.drewN n) := h.go (below_drewN (Below.refl _ _) n)
structure RtAt (S : List Sl) (k : Nat) : Prop where
 ok : ∀ j (h : j < S.length), j < k → SlOk S[j] ∧ S[j].ar.length ≤ 200
 pair : ∀ j (h : j + 1 < S.length), j + 1 < k → SlB S[j] S[j + 1]
set_option maxHeartbeats 16000000 in
theorem bright_any (A : Option Addr) (cap : Nat) (S : List Sl) (w0 : World) (h : SIn w0 A cap S) : Calls Tryz.prog 91 #[.slice A S.length cap] w0 (SRightIs S w0) := by
 have hlen := h.len
 have H1 := Lib.hid h.row; clear h
 have HB0 := Lib.hid (Below.refl w0.heap.size w0)
 by_cases h80 : 80 < S.length
 ·have s1 : (80 : Int) < (S.length : Int) := by omega
  have NO : Hid (¬ SolP S) := Lib.hid (fun h => by have := h.len; omega)
  clear h80 H1
  go_enter Tryz.func91, Tryz.ntmps91
  go_wp2_with fail
  go_ret
  exact ⟨false, ⟨fun h => (by cases h), fun h => absurd h NO.out⟩, rfl, HB0.out⟩
 ·have s1 : ¬ (80 : Int) < (S.length : Int) := by omega
  have s2 : S.length ≤ 80 := by omega
  go_enter Tryz.func91, Tryz.ntmps91
  go_wp2_with fail
  go_loopw [10] (fun i wr => ∃ (k : Nat), k ≤ S.length ∧ i = .int .i64 k ∧ Hid (Below w0.heap.size w0 wr) ∧ Hid (RtAt S k)) (fun i _ => S.length - (intOf i).toNat)
  case atStart => exact ⟨0, Nat.zero_le _, rfl, HB0, Lib.hid ⟨fun j _ h => by omega, fun j _ h => by omega⟩⟩
  case round =>
   clear HB0
   obtain ⟨k, hk, rfl, HB, HT⟩ := hrel
   by_cases hlt : k < S.length
   ·obtain ⟨b1, o1, rfl, hb1, hv1⟩ := H1.out (by omega)
    obtain ⟨x0, x1, Aj, cj, x2, hr⟩ := hv1 k hlt
    have wc := fun o => HB.out.cell (p := ⟨b1, o, none⟩) hb1
    have x0 := (wc _).trans x0; have x1 := (wc _).trans x1; have x2 := (wc _).trans x2
    have hbs := HB.out.size
    have hbw : b1 < wr.heap.size := Nat.lt_of_lt_of_le hb1 hbs
    have n0 : (0 : Int) ≤ (k : Int) := by omega
    have n1 : (k : Int) < (S.length : Int) := by omega
    obtain ⟨u, hu⟩ : ∃ u, u = S[k] := ⟨_, rfl⟩
    rw [← hu] at x0 x1 x2 hr
    have HU := Lib.hid hu; clear hu
    have HBA := Lib.hid (HB.out.alloc hbs (.cells #[.int .i64 u.z0, .int .i64 u.z1, .slice Aj u.ar.length cj] 153))
    have HSA := Lib.hid (SlAt.new wr u Aj cj u.ar.length rfl)
    have HR := Lib.hid hr
    have FALSE : Hid (∀ w', Below w0.heap.size w0 w' → ¬ SolP S → SRightIs S w0 (.returned (.bool false)) w') := Lib.hid (fun w' hb hn => ⟨false, ⟨fun h => (by cases h), fun h => absurd h hn⟩, rfl, hb⟩)
    have HIS := Lib.hid (fun w' => bisr_any u.z0 u.z1 w')
    clear hr
    by_cases ca : HOk u.z0 u.z1
    ·have d1 : decide (HOk u.z0 u.z1) = true := decide_eq_true ca
     rw [d1] at HIS
     by_cases cb : u.ar.length = 0
     ·have NO : Hid (¬ SolP S) := Lib.hid (fun h => (h.form.each _ (List.getElem_mem hlt)).ne (by rw [← HU.out]; exact List.length_eq_zero_iff.1 cb))
      rw [cb] at x2 HBA HSA
      have CB := Lib.hid cb
      clear ca d1 hv1 wc cb HR HU HT
      go_wp2_with fail
      refine (HIS.out _).mono ?_
      rintro e w1 ⟨rfl, hb⟩
      have HB1 := Lib.hid (HBA.out.trans (hb.mono HBA.out.size))
      have hs2 := HSA.out.below hb
      have y2 := hs2.c2; have yl := hs2.lt
      rw [CB.out] at y2
      clear hs2 hb
      go_wp2_with fail
      go_ret
      exact FALSE.out _ HB1.out NO.out
     ·have CB := Lib.hid cb
      have cb2 : ¬ (u.ar = []) := fun h => cb (by rw [h]; rfl)
      have CB2 := Lib.hid cb2
      by_cases cr : RegP u.ar
      ·have HRY := Lib.hid (fun w' (hb : Below wr.heap.size wr w') => gright_yes Aj cj u.ar w' (HR.out.below (HB.out.trans (hb.mono hbs))).row HR.out.len HR.out.room HR.out.room2 cr)
       have OKU : Hid (SlOk u ∧ u.ar.length ≤ 200) := Lib.hid ⟨⟨ca, cb2, cr.1⟩, cr.2⟩
       have HRU := Lib.hid (fun w' (hb : Below wr.heap.size wr w') => HR.out.below (HB.out.trans (hb.mono hbs)))
       have hnu : u.ar.length ≤ 200 := cr.2
       clear ca d1 cr CB2 HR
       obtain ⟨n, hn⟩ : ∃ n, n = u.ar.length := ⟨_, rfl⟩
       rw [← hn] at x2 HBA HRY cb CB HSA hnu
       have z1 : ((n : Int) == 0) = false := by simp; omega
       have z2 : (n == 0) = false := by simp; omega
       have HN := Lib.hid hn; clear hn
       have HHB := Lib.hid hb1
       by_cases k0 : k = 0
       ·have g0 : decide ((0 : Int) < (k : Int)) = false := by simp; omega
        have g1 : decide (0 < k) = false := by simp; omega
        have HT2 : Hid (RtAt S (k + 1)) := Lib.hid ⟨fun j hj h => by
         obtain rfl : j = k := by omega
         rw [← HU.out]; exact OKU.out, fun j hj h => by omega⟩
        clear hv1 wc HU HT k0
        go_wp2_with fail
        refine (HIS.out _).mono ?_
        rintro e w1 ⟨rfl, hb⟩
        have HB1 := Lib.hid (HBA.out.trans (hb.mono HBA.out.size))
        have hs2 := HSA.out.below hb
        have y2 := hs2.c2; have yl := hs2.lt
        rw [← HN.out] at y2
        go_wp2_with fail
        refine (HRY.out _ ?hbx).mono ?_
        case hbx => exact ((Below.refl _ _).alloc (Nat.le_refl _) _).trans (hb.mono (by simp))
        rintro e w2 ⟨rfl, hb2⟩
        have HB2 := Lib.hid (HB1.out.trans (hb2.mono HB1.out.size))
        clear hb hb2 hs2 y2 yl
        go_wp2_with fail
        go_quiet (fail)
        go_wp2_with fail
        go_roundw
        case rel => exact ⟨k + 1, by omega, by go_num, Lib.hid (below_drewN HB2.out _), HT2⟩
        case measure => simp [intOf]; omega
       ·obtain ⟨k, rfl⟩ : ∃ i, k = i + 1 := ⟨k - 1, by omega⟩
        obtain ⟨q0, q1, Av, cv, q2, hrv⟩ := hv1 k (by omega)
        have q0 := (wc _).trans q0; have q1 := (wc _).trans q1; have q2 := (wc _).trans q2
        have g0 : decide ((0 : Int) < (((k + 1 : Nat)) : Int)) = true := by simp
        have r1 : IntKind.i64.wrap (k : Int) = (k : Int) := IntWalk.i64_in _ (by omega)
        have m0 : (0 : Int) ≤ (k : Int) := by omega
        have m1 : (k : Int) < (S.length : Int) := by omega
        have HP : Hid (∀ h : k + 1 < S.length, SolP S → SlB (S[k]'(by omega)) u) := Lib.hid (fun h hs => by rw [HU.out]; exact sform_pair hs.form k h)
        have HT2 : Hid (SlB (S[k]'(by omega)) u → RtAt S (k + 1 + 1)) := Lib.hid (fun hb => ⟨fun j hj h => by
         by_cases e : j < k + 1
         ·exact HT.out.ok j hj e
         ·obtain rfl : j = k + 1 := by omega
          rw [← HU.out]; exact OKU.out, fun j hj h => by
         by_cases e : j + 1 < k + 1
         ·exact HT.out.pair j hj e
         ·obtain rfl : j = k := by omega
          rw [← HU.out]; exact hb⟩)
        have HNV : Hid ((S[k]'(by omega)).ar.length ≤ 200) := Lib.hid ((HT.out.ok k (by omega) (by omega)).2)
        obtain ⟨v, hv⟩ : ∃ v, v = S[k]'(by omega) := ⟨_, rfl⟩
        rw [← hv] at q0 q1 q2 hrv HP HT2 HNV
        have HRV := Lib.hid hrv
        clear hv1 wc HU HT k0 hv hrv
        have HPQ := Lib.hid (HP.out hlt)
        clear HP
        by_cases cz : u.z0 < v.z1
        ·have g2 : decide (u.z0 < v.z1) = true := decide_eq_true cz
         have NO : Hid (¬ SolP S) := Lib.hid (fun h => by have := (HPQ.out h).1; omega)
         clear HPQ HT2 HRU HRV cz
         go_wp2_with fail
         refine (HIS.out _).mono ?_
         rintro e w1 ⟨rfl, hb⟩
         have HB1 := Lib.hid (HBA.out.trans (hb.mono HBA.out.size))
         have hs2 := HSA.out.below hb
         have y2 := hs2.c2; have yl := hs2.lt
         rw [← HN.out] at y2
         go_wp2_with fail
         refine (HRY.out _ ?hbx).mono ?_
         case hbx => exact ((Below.refl _ _).alloc (Nat.le_refl _) _).trans (hb.mono (by simp))
         rintro e w2 ⟨rfl, hb2⟩
         have HB2 := Lib.hid (HB1.out.trans (hb2.mono HB1.out.size))
         have hwr : Below wr.heap.size wr w2 := (((Below.refl _ _).alloc (Nat.le_refl _) _).trans (hb.mono (by simp))).trans (hb2.mono (by have := hb.size; simp at this; omega))
         have hs3 := hs2.below hb2
         have E0 : Hid (Rx wr.heap.size b1 (o1 + k * 3) u v Aj cj Av cv w0 w2) := Lib.hid ⟨hs3.c0, hs3.c1, hs3.c2, (hwr.cell (p := ⟨b1, _, none⟩) hbw).trans q0, (hwr.cell (p := ⟨b1, _, none⟩) hbw).trans q1, (hwr.cell (p := ⟨b1, _, none⟩) hbw).trans q2, hs3.lt, Nat.lt_of_lt_of_le hbw hwr.size, HB2⟩
         clear hb hb2 hs2 y2 yl hs3 q0 q1 q2 x0 x1 x2
         clear hwr
         obtain ⟨y0, y1, y2, q0, q1, q2, yl, ql, _⟩ := E0.out
         clear E0
         go_wp2_with fail
         go_quiet (fail)
         go_wp2_with fail
         go_ret
         exact FALSE.out _ (below_drewN HB2.out _) NO.out
        ·have g2 : decide (u.z0 < v.z1) = false := decide_eq_false cz
         by_cases ce : v.z1 = u.z0 ∧ v.ar = u.ar
         ·have NO : Hid (¬ SolP S) := Lib.hid (fun h => (HPQ.out h).2 ce.1 ce.2)
          have dc : decide (v.z1 = u.z0 ∧ v.ar = u.ar) = true := decide_eq_true ce
          have HCO : Hid (∀ w', Below wr.heap.size wr w' → Calls Tryz.prog 144 #[.agg #[.int .i64 v.z0, .int .i64 v.z1, .slice Av v.ar.length cv], .agg #[.int .i64 u.z0, .int .i64 u.z1, .slice Aj u.ar.length cj]] w' (BlIs true w')) := Lib.hid (fun w' hb => by
           have := bcont_any v.z0 v.z1 u.z0 u.z1 Av cv Aj cj v.ar u.ar w' (HRV.out.below (HB.out.trans (hb.mono hbs))).row (HRU.out w' hb).row (by have := HNV.out; omega) (by have := OKU.out.2; omega)
           rw [dc] at this; exact this)
          clear HPQ HT2 HRU HRV cz ce dc
          go_wp2_with fail
          refine (HIS.out _).mono ?_
          rintro e w1 ⟨rfl, hb⟩
          have HB1 := Lib.hid (HBA.out.trans (hb.mono HBA.out.size))
          have hs2 := HSA.out.below hb
          have y2 := hs2.c2; have yl := hs2.lt
          rw [← HN.out] at y2
          go_wp2_with fail
          refine (HRY.out _ ?hbx).mono ?_
          case hbx => exact ((Below.refl _ _).alloc (Nat.le_refl _) _).trans (hb.mono (by simp))
          rintro e w2 ⟨rfl, hb2⟩
          have HB2 := Lib.hid (HB1.out.trans (hb2.mono HB1.out.size))
          have hwr : Below wr.heap.size wr w2 := (((Below.refl _ _).alloc (Nat.le_refl _) _).trans (hb.mono (by simp))).trans (hb2.mono (by have := hb.size; simp at this; omega))
          have hs3 := hs2.below hb2
          have E0 : Hid (Rx wr.heap.size b1 (o1 + k * 3) u v Aj cj Av cv w0 w2) := Lib.hid ⟨hs3.c0, hs3.c1, hs3.c2, (hwr.cell (p := ⟨b1, _, none⟩) hbw).trans q0, (hwr.cell (p := ⟨b1, _, none⟩) hbw).trans q1, (hwr.cell (p := ⟨b1, _, none⟩) hbw).trans q2, hs3.lt, Nat.lt_of_lt_of_le hbw hwr.size, HB2⟩
          clear hb hb2 hs2 y2 yl hs3 q0 q1 q2 x0 x1 x2
          have HWR := Lib.hid hwr; clear hwr
          have hw2 : wr.heap.size ≤ w2.heap.size := HWR.out.size
          go_wp2_with fail
          go_region_held3 (fun w' => w'.cell? ⟨wr.heap.size, 0, none⟩ = some (.int .i64 u.z0) ∧ w'.cell? ⟨wr.heap.size, 1, none⟩ = some (.int .i64 u.z1) ∧ w'.cell? ⟨wr.heap.size, 2, none⟩ = some (.slice Aj u.ar.length cj) ∧ w'.cell? ⟨b1, o1 + k * 3, none⟩ = some (.int .i64 v.z0) ∧ w'.cell? ⟨b1, o1 + k * 3 + 1, none⟩ = some (.int .i64 v.z1) ∧ w'.cell? ⟨b1, o1 + k * 3 + 2, none⟩ = some (.slice Av v.ar.length cv) ∧ wr.heap.size < w'.heap.size ∧ b1 < w'.heap.size ∧ Hid (Below w0.heap.size w0 w'))
           (first | exact E0.out | exact Rx.drewN E0.out 1 | exact Rx.go ‹_› ‹_› | assumption)
           (first | (go_at_call 144; refine (HCO.out _ HWR.out.drew).mono ?_; rintro e w' ⟨rfl, hb⟩) | fail)
          have E2 : Rx wr.heap.size b1 (o1 + k * 3) u v Aj cj Av cv w0 w' := by assumption
          have HB3 := E2.2.2.2.2.2.2.2.2
          clear E0 E2
          go_wp2_with fail
          go_ret
          exact FALSE.out _ HB3.out NO.out
         ·have HTN := Lib.hid (HT2.out ⟨by omega, fun h1 h2 => ce ⟨h1, h2⟩⟩)
          have dc : decide (v.z1 = u.z0 ∧ v.ar = u.ar) = false := decide_eq_false ce
          have HCO : Hid (∀ w', Below wr.heap.size wr w' → Calls Tryz.prog 144 #[.agg #[.int .i64 v.z0, .int .i64 v.z1, .slice Av v.ar.length cv], .agg #[.int .i64 u.z0, .int .i64 u.z1, .slice Aj u.ar.length cj]] w' (BlIs false w')) := Lib.hid (fun w' hb => by
           have := bcont_any v.z0 v.z1 u.z0 u.z1 Av cv Aj cj v.ar u.ar w' (HRV.out.below (HB.out.trans (hb.mono hbs))).row (HRU.out w' hb).row (by have := HNV.out; omega) (by have := OKU.out.2; omega)
           rw [dc] at this; exact this)
          clear HPQ HT2 HRU HRV cz ce dc
          go_wp2_with fail
          refine (HIS.out _).mono ?_
          rintro e w1 ⟨rfl, hb⟩
          have HB1 := Lib.hid (HBA.out.trans (hb.mono HBA.out.size))
          have hs2 := HSA.out.below hb
          have y2 := hs2.c2; have yl := hs2.lt
          rw [← HN.out] at y2
          go_wp2_with fail
          refine (HRY.out _ ?hbx).mono ?_
          case hbx => exact ((Below.refl _ _).alloc (Nat.le_refl _) _).trans (hb.mono (by simp))
          rintro e w2 ⟨rfl, hb2⟩
          have HB2 := Lib.hid (HB1.out.trans (hb2.mono HB1.out.size))
          have hwr : Below wr.heap.size wr w2 := (((Below.refl _ _).alloc (Nat.le_refl _) _).trans (hb.mono (by simp))).trans (hb2.mono (by have := hb.size; simp at this; omega))
          have hs3 := hs2.below hb2
          have E0 : Hid (Rx wr.heap.size b1 (o1 + k * 3) u v Aj cj Av cv w0 w2) := Lib.hid ⟨hs3.c0, hs3.c1, hs3.c2, (hwr.cell (p := ⟨b1, _, none⟩) hbw).trans q0, (hwr.cell (p := ⟨b1, _, none⟩) hbw).trans q1, (hwr.cell (p := ⟨b1, _, none⟩) hbw).trans q2, hs3.lt, Nat.lt_of_lt_of_le hbw hwr.size, HB2⟩
          clear hb hb2 hs2 y2 yl hs3 q0 q1 q2 x0 x1 x2
          have HWR := Lib.hid hwr; clear hwr
          have hw2 : wr.heap.size ≤ w2.heap.size := HWR.out.size
          go_wp2_with fail
          go_region_held3 (fun w' => w'.cell? ⟨wr.heap.size, 0, none⟩ = some (.int .i64 u.z0) ∧ w'.cell? ⟨wr.heap.size, 1, none⟩ = some (.int .i64 u.z1) ∧ w'.cell? ⟨wr.heap.size, 2, none⟩ = some (.slice Aj u.ar.length cj) ∧ w'.cell? ⟨b1, o1 + k * 3, none⟩ = some (.int .i64 v.z0) ∧ w'.cell? ⟨b1, o1 + k * 3 + 1, none⟩ = some (.int .i64 v.z1) ∧ w'.cell? ⟨b1, o1 + k * 3 + 2, none⟩ = some (.slice Av v.ar.length cv) ∧ wr.heap.size < w'.heap.size ∧ b1 < w'.heap.size ∧ Hid (Below w0.heap.size w0 w'))
           (first | exact E0.out | exact Rx.drewN E0.out 1 | exact Rx.go ‹_› ‹_› | assumption)
           (first | (go_at_call 144; refine (HCO.out _ HWR.out.drew).mono ?_; rintro e w' ⟨rfl, hb⟩) | fail)
          have E2 : Rx wr.heap.size b1 (o1 + k * 3) u v Aj cj Av cv w0 w' := by assumption
          have HB3 := E2.2.2.2.2.2.2.2.2
          clear E0 E2
          go_wp2_with fail
          go_roundw
          case rel => exact ⟨k + 1 + 1, by omega, by go_num, HB3, HTN⟩
          case measure => simp [intOf]; omega
      ·have HRN := Lib.hid (fun w' (hb : Below wr.heap.size wr w') => gright_no Aj cj u.ar w' (HR.out.below (HB.out.trans (hb.mono hbs))).row HR.out.len HR.out.room HR.out.room2 cr)
       have NO : Hid (¬ SolP S) := Lib.hid (fun h => cr (by rw [HU.out]; exact ⟨(h.form.each _ (List.getElem_mem hlt)).form, h.rects _ (List.getElem_mem hlt)⟩))
       clear ca d1 cr hv1 wc HU HT CB2
       obtain ⟨n, hn⟩ : ∃ n, n = u.ar.length := ⟨_, rfl⟩
       rw [← hn] at x2 HBA HRN cb CB
       have z1 : ((n : Int) == 0) = false := by simp; omega
       have z2 : (n == 0) = false := by simp; omega
       have HSL : Hid (wr.alloc (.cells #[.int .i64 u.z0, .int .i64 u.z1, .slice Aj n cj] 153) = wr.alloc (.cells #[.int .i64 u.z0, .int .i64 u.z1, .slice Aj n cj] 153)) := Lib.hid rfl
       rw [← hn] at HSA
       have HN := Lib.hid hn; clear hn
       go_wp2_with fail
       refine (HIS.out _).mono ?_
       rintro e w1 ⟨rfl, hb⟩
       have HB1 := Lib.hid (HBA.out.trans (hb.mono HBA.out.size))
       have hs2 := HSA.out.below hb
       have y2 := hs2.c2; have yl := hs2.lt
       rw [← HN.out] at y2
       clear hs2
       go_wp2_with fail
       refine (HRN.out _ ?hbx).mono ?_
       case hbx => exact ((Below.refl _ _).alloc (Nat.le_refl _) _).trans (hb.mono (by simp))
       rintro e w2 ⟨rfl, hb2⟩
       have HB2 := Lib.hid (HB1.out.trans (hb2.mono HB1.out.size))
       clear hb hb2
       go_wp2_with fail
       go_ret
       exact FALSE.out _ HB2.out NO.out
    ·have d1 : decide (HOk u.z0 u.z1) = false := decide_eq_false ca
     rw [d1] at HIS
     have NO : Hid (¬ SolP S) := Lib.hid (fun h => ca (by rw [HU.out]; exact (h.form.each _ (List.getElem_mem hlt)).h))
     clear ca d1 hv1 wc HR HU HT HSA
     go_wp2_with fail
     refine (HIS.out _).mono ?_
     rintro e w1 ⟨rfl, hb⟩
     have HB1 := Lib.hid (HBA.out.trans (hb.mono HBA.out.size))
     clear hb
     go_wp2_with fail
     go_ret
     exact FALSE.out _ HB1.out NO.out
   ·obtain rfl : k = S.length := by omega
    have YES : Hid (SolP S) := Lib.hid ⟨sform_of (fun j hj => (HT.out.ok j hj hj).1) (fun j hj => HT.out.pair j hj hj), s2, fun s hs => by
     obtain ⟨j, hj, rfl⟩ := List.mem_iff_getElem.1 hs
     exact (HT.out.ok j hj hj).2⟩
    clear HT
    go_wp2_with fail
    go_ret
    exact ⟨true, ⟨fun _ => YES.out, fun _ => rfl⟩, rfl, HB.out⟩
end Go.Proofs.YtngddecpfhlilaaGreat
