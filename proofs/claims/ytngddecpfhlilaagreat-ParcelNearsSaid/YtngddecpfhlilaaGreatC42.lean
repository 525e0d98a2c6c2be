/-
  Lots (layer 13): lists of lots that were handed in: their lists may be of whatever length until Few says yes.
-/
import Derived.Test.YtngddecpfhlilaaGreatC40
import Derived.Test.YtngddecpfhlilaaGreatC36
import Derived.Test.YtngddecpfhlilaaGreatC41
set_option linter.unusedVariables false
set_option maxRecDepth 100000
namespace Go.Proofs.YtngddecpfhlilaaGreat
open Go.RowKit
structure LtOI (w : World) (t : Lt) (p : LtP) : Prop where
 ar : RRow w p.A t.ar
 al : t.ar.length ≤ p.c
 ac : p.c ≤ 9223372036854775807
 fr : IRow w p.B t.fr
 bl : t.fr.length ≤ p.d
 bc : p.d ≤ 9223372036854775807
 an : p.A = none → p.c = 0
 bn : p.B = none → p.d = 0
theorem LtOI.below {w w' : World} {t : Lt} {p : LtP} (h : LtOI w t p) (hb : Below w.heap.size w w') : LtOI w' t p := ⟨h.ar.below hb, h.al, h.ac, h.fr.below hb, h.bl, h.bc, h.an, h.bn⟩
def LtORow (w : World) (A : Option Addr) (L : List Lt) : Prop := 0 < L.length → ∃ b off, A = some ⟨b, off, none⟩ ∧ b < w.heap.size ∧ ∀ j (h : j < L.length), ∃ p, LtC w b (off + j * 4) L[j] p ∧ LtOI w L[j] p
structure LtO (w : World) (A : Option Addr) (cap : Nat) (L : List Lt) : Prop where
 row : LtORow w A L
 room : L.length ≤ cap
 room2 : cap ≤ 9223372036854775807
theorem LtO.len {w : World} {A : Option Addr} {cap : Nat} {L : List Lt} (h : LtO w A cap L) : L.length ≤ 9223372036854775807 := Nat.le_trans h.room h.room2
theorem LtO.below {w w' : World} {A : Option Addr} {cap : Nat} {L : List Lt} (h : LtO w A cap L) (hb : Below w.heap.size w w') : LtO w' A cap L := ⟨fun h0 => by
 obtain ⟨b, off, e, hl, hc⟩ := h.row h0
 refine ⟨b, off, e, Nat.lt_of_lt_of_le hl hb.size, fun j hj => ?_⟩
 obtain ⟨p, hp, hi⟩ := hc j hj
 exact ⟨p, hp.below hl hb, hi.below hb⟩, h.room, h.room2⟩
theorem LtO.fut {w : World} {A : Option Addr} {c : Nat} {L : List Lt} (h : LtO w A c L) : Fut w (fun w' => LtO w' A c L) := fun w' hb => h.below hb
theorem LtO.at_ {w : World} {A : Option Addr} {cap : Nat} {L : List Lt} (h : LtO w A cap L) {j : Nat} (hj : j < L.length) : ∃ b off p, A = some ⟨b, off, none⟩ ∧ b < w.heap.size ∧ LtC w b (off + j * 4) L[j] p ∧ LtOI w L[j] p := by
 obtain ⟨b, off, e, hl, hc⟩ := h.row (by omega)
 obtain ⟨p, hp, hi⟩ := hc j hj
 exact ⟨b, off, p, e, hl, hp, hi⟩
theorem few_len {L : List Lt} (h : fewB L = true) : L.length ≤ 12 ∧ ∀ t ∈ L, t.ar.length ≤ 20 ∧ t.fr.length ≤ 30 := by
 unfold fewB at h
 rw [Bool.and_eq_true, List.all_eq_true] at h
 refine ⟨by simpa using h.2, fun t ht => ?_⟩
 have := h.1 t ht
 simpa using this
theorem LtO.few {w : World} {A : Option Addr} {cap : Nat} {L : List Lt} (h : LtO w A cap L) (hf : fewB L = true) : LtIn w A cap L := by
 obtain ⟨h1, h2⟩ := few_len hf
 refine ⟨fun h0 => ?_, by omega, h.room, h.room2⟩
 obtain ⟨b, off, e, hl, hc⟩ := h.row h0
 refine ⟨b, off, e, hl, fun j hj => ?_⟩
 obtain ⟨p, hp, hi⟩ := hc j hj
 obtain ⟨g1, g2⟩ := h2 _ (List.getElem_mem hj)
 exact ⟨p, hp, ⟨⟨hi.ar, by omega, hi.al, hi.ac⟩, ⟨hi.fr, by omega, hi.bl, hi.bc⟩, hi.an, hi.bn⟩⟩
set_option maxHeartbeats 8000000 in
theorem mfewo_any (A : Option Addr) (cap : Nat) (L : List Lt) (w : World) (h : LtO w A cap L) : Calls Tryz.prog 10 #[.slice A L.length cap] w (BlIs (fewB L) w) := by
 have HL := Lib.hid h; clear h
 have hlen := HL.out.len
 have HBAD := Lib.hid (fun k (hk : k < L.length) h => few_bad (L := L) hk h)
 have HGD := Lib.hid (few_good (L := L))
 generalize fewB L = X at *
 go_enter Tryz.func10, Tryz.ntmps10
 go_wp2_with fail
 go_loopw [3] (fun i wr => ∃ (k : Nat), k ≤ L.length ∧ i = .int .i64 k ∧ Hid (∀ j (hj : j < L.length), j < k → L[j].ar.length ≤ 20 ∧ L[j].fr.length ≤ 30) ∧ Hid (Below w.heap.size w wr)) (fun i _ => L.length - (intOf i).toNat)
 case atStart => exact ⟨0, Nat.zero_le _, rfl, Lib.hid (fun j hj h => by omega), Lib.hid (Below.refl _ _)⟩
 case round =>
  obtain ⟨k, hk, rfl, HN, HB⟩ := hrel
  by_cases hlt : k < L.length
  ·obtain ⟨b, o, p, rfl, hb, hc, hi⟩ := HL.out.at_ hlt
   obtain ⟨x0, x1, x2, x3⟩ := hc.below hb HB.out
   have n0 : (0 : Int) ≤ (k : Int) := by omega
   have n1 : (k : Int) < (L.length : Int) := by omega
   have HY := Lib.hid (HBAD.out k hlt)
   have HNX : Hid (L[k].ar.length ≤ 20 ∧ L[k].fr.length ≤ 30 → ∀ j (hj : j < L.length), j < k + 1 → L[j].ar.length ≤ 20 ∧ L[j].fr.length ≤ 30) := Lib.hid (fun hne j hj hjk => by
    by_cases e : j = k
    ·subst e; exact hne
    ·exact HN.out j hj (by omega))
   clear hc hi
   generalize L[k] = u at *
   generalize u.ar.length = a at *
   generalize u.fr.length = f at *
   by_cases c : 20 < a
   ·have HV := Lib.hid (HY.out (.inl c))
    have s0 : (20 : Int) < (a : Int) := by omega
    clear HY HNX
    go_wp2_with fail
    go_ret
    rw [HV.out]; exact ⟨rfl, by (repeat' first | exact Below.refl _ _ | assumption | (apply below_drewN) | (refine Below.setCell ?_ (by (try simp); (try omega)) _) | (refine Below.alloc ?_ (by (try simp); (try omega)) _) | (refine Below.trans ?_ (Below.mono (Hid.out (by assumption)) (by (try simp); (try omega)))))⟩
   ·have s0 : ¬ (20 : Int) < (a : Int) := by omega
    by_cases d : 30 < f
    ·have HV := Lib.hid (HY.out (.inr d))
     have s1 : (30 : Int) < (f : Int) := by omega
     clear HY HNX
     go_wp2_with fail
     go_ret
     rw [HV.out]; exact ⟨rfl, by (repeat' first | exact Below.refl _ _ | assumption | (apply below_drewN) | (refine Below.setCell ?_ (by (try simp); (try omega)) _) | (refine Below.alloc ?_ (by (try simp); (try omega)) _) | (refine Below.trans ?_ (Below.mono (Hid.out (by assumption)) (by (try simp); (try omega)))))⟩
    ·have s1 : ¬ (30 : Int) < (f : Int) := by omega
     have HN2 := Lib.hid (HNX.out ⟨by omega, by omega⟩)
     clear HY HNX
     go_wp2_with fail
     go_roundw
     case rel => exact ⟨k + 1, by omega, by go_num, HN2, Lib.hid (by (repeat' first | exact Below.refl _ _ | assumption | (apply below_drewN) | (refine Below.setCell ?_ (by (try simp); (try omega)) _) | (refine Below.alloc ?_ (by (try simp); (try omega)) _) | (refine Below.trans ?_ (Below.mono (Hid.out (by assumption)) (by (try simp); (try omega))))))⟩
     case measure => simp [intOf]; omega
  ·obtain rfl : k = L.length := by omega
   have HV := Lib.hid (HGD.out (fun j hj => HN.out j hj hj))
   by_cases c : L.length ≤ 12
   ·have s0 : (L.length : Int) ≤ 12 := by omega
    go_wp2_with fail
    go_ret
    rw [HV.out]; exact ⟨by simp [c], HB.out⟩
   ·have s0 : ¬ (L.length : Int) ≤ 12 := by omega
    go_wp2_with fail
    go_ret
    rw [HV.out]; exact ⟨by simp [c], HB.out⟩
end Go.Proofs.YtngddecpfhlilaaGreat
