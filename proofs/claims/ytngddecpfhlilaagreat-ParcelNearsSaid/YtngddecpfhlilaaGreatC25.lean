/-
  Contracts of layer 13 (9): isLot, cells, isTaken.
  Contracts of layer 13 (10): isTaken, cells, the closure of Right.
  Contracts of the program's layer 9, 8: both, Union, Common, Minus.
  From what is handed in to what the walks of layer 9 ask: a list of boxes, a list of slabs.
-/
import Derived.Test.YtngddecpfhlilaaGreatC23
import Derived.Test.YtngddecpfhlilaaGreatC18
import Derived.Test.YtngddecpfhlilaaGreatC22
import Derived.Test.YtngddecpfhlilaaGreatC24
import Derived.Test.YtngddecpfhlilaaGreatC04
set_option linter.unusedVariables false
set_option maxRecDepth 100000
namespace Go.Proofs.YtngddecpfhlilaaGreat
open Go.RowKit
def frB (l : List Int) : Bool := decide (∀ j (h : j < l.length), nB l[j] = true ∧ ∀ h0 : 0 < j, l[j - 1] < l[j])
noncomputable def lotB (t : Lt) : Bool := frB t.fr && nB t.id && oB t.ow && oneB t.ar
set_option maxHeartbeats 16000000 in
theorem lot_any (t : Lt) (p : LtP) (w : World) (h : LtI w t p) : Calls Tryz.prog 49 #[lvl t p] w (BlIs (lotB t) w) := by
 obtain ⟨id, ow, ar, fr⟩ := t
 obtain ⟨PA, PC, PB, PD⟩ := p
 unfold lvl
 have HN := Lib.hid h.fr
 have HR := Lib.hid h.ar
 clear h
 have hlen := HN.out.len
 simp only at hlen HN HR ⊢
 have HAT := Lib.hid (LtAt.new w ⟨id, ow, ar, fr⟩ ⟨PA, PC, PB, PD⟩ w.heap.size rfl (n := ar.length) (m := fr.length) rfl rfl)
 simp only at HAT
 have HB0 : Hid (Below w.heap.size w (w.alloc (.cells #[.int .i64 id, .int .i64 ow, .slice PA ar.length PC, .slice PB fr.length PD] 40))) := Lib.hid ((Below.refl _ _).alloc (Nat.le_refl _) _)
 have HNUM := Lib.hid (fun n W' => num_any n W')
 have HOWN := Lib.hid (fun n W' => own_any n W')
 have HONE := Lib.hid (fun W' (hb : Below w.heap.size w W') => one_any PA PC ar W' (HR.out.below hb))
 have HLB : Hid (lotB ⟨id, ow, ar, fr⟩ = (frB fr && nB id && oB ow && oneB ar)) := Lib.hid rfl
 generalize lotB ⟨id, ow, ar, fr⟩ = z at *
 generalize oneB ar = zo at *
 clear HR
 have HC0 : Hid (∀ w', LtAt w' w.heap.size ⟨id, ow, ar, fr⟩ ⟨PA, PC, PB, PD⟩ → w'.cell? ⟨w.heap.size, 0, none⟩ = some (.int .i64 id) ∧ w'.cell? ⟨w.heap.size, 1, none⟩ = some (.int .i64 ow) ∧ w'.cell? ⟨w.heap.size, 2, none⟩ = some (.slice PA ar.length PC) ∧ w'.cell? ⟨w.heap.size, 3, none⟩ = some (.slice PB fr.length PD)) := Lib.hid (fun w' h => h.c)
 generalize ar.length = na at *
 go_enter Tryz.func49, Tryz.ntmps49
 go_upto_region 1 with fail
 generalize w.alloc (.cells #[.int .i64 id, .int .i64 ow, .slice PA na PC, .slice PB fr.length PD] 40) = wq at *
 obtain ⟨g, hg⟩ : ∃ g, g = w.heap.size := ⟨_, rfl⟩
 rw [← hg] at HC0 HAT
 simp only [← hg]
 clear hg
 obtain ⟨q0, q1, q2, q3⟩ := HC0.out _ HAT.out
 have ql := HAT.out.lt
 have HF : Hid (frB fr = decide (∀ j (h : j < fr.length), nB fr[j] = true ∧ ∀ h0 : 0 < j, fr[j - 1] < fr[j])) := Lib.hid rfl
 go_wp2_with fail
 go_loopw [8] (fun i wr => ∃ (k : Nat), k ≤ fr.length ∧ i = .int .i64 k ∧ Hid (Below wq.heap.size wq wr) ∧ Hid (∀ j (h : j < fr.length), j < k → nB fr[j] = true ∧ ∀ h0 : 0 < j, fr[j - 1] < fr[j])) (fun i _ => fr.length - (intOf i).toNat)
 case atStart => exact ⟨0, Nat.zero_le _, rfl, Lib.hid (Below.refl _ _), Lib.hid (fun j h hj => absurd hj (Nat.not_lt_zero _))⟩
 case round =>
  obtain ⟨k, hk, rfl, HB, HT⟩ := hrel
  have hbs := HB.out.size
  have wc := fun i => HB.out.cell (p := ⟨g, i, none⟩) ql
  have p0 := (wc _).trans q0; have p1 := (wc _).trans q1; have p2 := (wc _).trans q2; have p3 := (wc _).trans q3
  have pl : g < wr.heap.size := Nat.lt_of_lt_of_le ql hbs
  clear wc
  have HBW := Lib.hid (HB0.out.trans (HB.out.mono HB0.out.size))
  by_cases hlt : k < fr.length
  ·obtain ⟨b, o, rfl, hb, hv⟩ := HN.out.row (by omega)
   have wb := fun i => HBW.out.cell (p := ⟨b, i, none⟩) hb
   have x0 := (wb _).trans (hv k hlt)
   have n0 : (0 : Int) ≤ (k : Int) := by omega
   have n1 : (k : Int) < (fr.length : Int) := by omega
   have HNN := Lib.hid (HNUM.out fr[k])
   have HNO := Lib.hid (fun (c : ¬ (nB fr[k] = true ∧ ∀ h0 : 0 < k, fr[k - 1] < fr[k])) => show z = false from by
    rw [HLB.out, HF.out, decide_eq_false (fun h => c (h k hlt))]; simp)
   have HTK := Lib.hid (fun (c : nB fr[k] = true ∧ ∀ h0 : 0 < k, fr[k - 1] < fr[k]) j (h : j < fr.length) (hj : j < k + 1) => show nB fr[j] = true ∧ ∀ h0 : 0 < j, fr[j - 1] < fr[j] from by
    by_cases e : j < k
    ·exact HT.out j h e
    ·obtain rfl : j = k := by omega
     exact c)
   clear HT
   cases cn : nB fr[k] with
   | false =>
    have HZ := Lib.hid (HNO.out (fun h => by rw [cn] at h; exact absurd h.1 (by decide)))
    rw [cn] at HNN
    clear HNO HTK cn hv wb
    generalize fr[k] = y at *
    go_wp2_with (go_at_call 74; refine (HNN.out _).mono ?_; rintro e w1 ⟨rfl, hb⟩; have HBl := Lib.hid hb; clear hb)
    go_ret
    exact ⟨by rw [HZ.out]; rfl, HBW.out.trans ((by (repeat' first | exact Below.refl _ _ | assumption | (apply below_drewN) | (refine Below.setCell ?_ (by (try simp); (try omega)) _) | (refine Below.alloc ?_ (by (try simp); (try omega)) _) | (refine Below.trans ?_ (Below.mono (Hid.out (by assumption)) (by (try simp); (try omega))))) : Below wr.heap.size wr _).mono HBW.out.size)⟩
   | true =>
    rw [cn] at HNN
    rcases Nat.eq_zero_or_pos k with k0 | k0
    ·subst k0
     have HT2 := Lib.hid (HTK.out ⟨cn, fun h0 => absurd h0 (by omega)⟩)
     simp only [Nat.add_zero] at x0
     clear HNO HTK cn hv wb
     generalize fr[0] = y at *
     go_wp2_with (go_at_call 74; refine (HNN.out _).mono ?_; rintro e w1 ⟨rfl, hb⟩; have HBl := Lib.hid hb; clear hb)
     go_roundw
     case rel => exact ⟨0 + 1, by omega, by go_num, Lib.hid (HB.out.trans ((by (repeat' first | exact Below.refl _ _ | assumption | (apply below_drewN) | (refine Below.setCell ?_ (by (try simp); (try omega)) _) | (refine Below.alloc ?_ (by (try simp); (try omega)) _) | (refine Below.trans ?_ (Below.mono (Hid.out (by assumption)) (by (try simp); (try omega))))) : Below wr.heap.size wr _).mono hbs)), HT2⟩
     case measure => simp [intOf]; omega
    ·obtain ⟨k', rfl⟩ : ∃ i, k = i + 1 := ⟨k - 1, by omega⟩
     have x1 := (wb _).trans (hv k' (by omega))
     have g0 : (0 : Int) < ((k' + 1 : Nat) : Int) := by omega
     have r1 : ((k' + 1 : Nat) : Int) - 1 = (k' : Int) := by omega
     have m0 : (0 : Int) ≤ (k' : Int) := by omega
     have m1 : (k' : Int) < (fr.length : Int) := by omega
     have HP1 := Lib.hid (fun (c : fr[k'] < fr[k' + 1]) => HTK.out ⟨cn, fun h0 => c⟩)
     have HP2 := Lib.hid (fun (c : ¬ fr[k'] < fr[k' + 1]) => HNO.out (fun h => c (h.2 (by omega))))
     clear HNO HTK cn hv wb
     generalize fr[k' + 1] = y at *
     generalize fr[k'] = y' at *
     by_cases c : y ≤ y'
     ·have hd := decide_eq_true c
      have HZ := Lib.hid (HP2.out (by omega))
      clear HP1 HP2
      go_wp2_with fail
      refine (HNN.out _).mono ?_
      rintro e w1 ⟨rfl, hb⟩
      have hbl := Nat.lt_of_lt_of_le ‹b < w.heap.size› HBW.out.size
      have x1 := (hb.cell (p := ⟨b, _, none⟩) hbl).trans x1
      have p3 := (hb.cell (p := ⟨g, 3, none⟩) pl).trans p3
      have HBl := Lib.hid hb
      clear hb
      go_wp2_with fail
      go_ret
      exact ⟨by rw [HZ.out]; rfl, HBW.out.trans ((by (repeat' first | exact Below.refl _ _ | assumption | (apply below_drewN) | (refine Below.setCell ?_ (by (try simp); (try omega)) _) | (refine Below.alloc ?_ (by (try simp); (try omega)) _) | (refine Below.trans ?_ (Below.mono (Hid.out (by assumption)) (by (try simp); (try omega))))) : Below wr.heap.size wr _).mono HBW.out.size)⟩
     ·have hd := decide_eq_false c
      have HT2 := Lib.hid (HP1.out (by omega))
      clear HP1 HP2
      go_wp2_with fail
      refine (HNN.out _).mono ?_
      rintro e w1 ⟨rfl, hb⟩
      have hbl := Nat.lt_of_lt_of_le ‹b < w.heap.size› HBW.out.size
      have x1 := (hb.cell (p := ⟨b, _, none⟩) hbl).trans x1
      have p3 := (hb.cell (p := ⟨g, 3, none⟩) pl).trans p3
      have HBl := Lib.hid hb
      clear hb
      go_wp2_with fail
      go_roundw
      case rel => exact ⟨k' + 1 + 1, by omega, by go_num, Lib.hid (HB.out.trans ((by (repeat' first | exact Below.refl _ _ | assumption | (apply below_drewN) | (refine Below.setCell ?_ (by (try simp); (try omega)) _) | (refine Below.alloc ?_ (by (try simp); (try omega)) _) | (refine Below.trans ?_ (Below.mono (Hid.out (by assumption)) (by (try simp); (try omega))))) : Below wr.heap.size wr _).mono hbs)), HT2⟩
      case measure => simp [intOf]; omega
  ·obtain rfl : k = fr.length := by omega
   have HY : Hid (frB fr = true) := Lib.hid (by rw [HF.out]; exact decide_eq_true (fun j h => HT.out j h h))
   rw [HY.out, Bool.true_and] at HLB
   clear HT HF
   have HN1 := Lib.hid (HNUM.out id)
   have HO1 := Lib.hid (HOWN.out ow)
   have HON := Lib.hid (fun W' (hb : Below wr.heap.size wr W') => HONE.out W' (HBW.out.trans (hb.mono HBW.out.size)))
   have HBR := Lib.hid (Below.refl wr.heap.size wr)
   generalize nB id = z1 at *
   generalize oB ow = z2 at *
   have ARM : True := trivial
   cases z1 <;> cases z2
   all_goals
    go_wp2_with (first
     | (go_at_call 74; refine (HN1.out _).mono ?_; rintro e w1 ⟨rfl, hb⟩; have p1 := (hb.cell (p := ⟨g, 1, none⟩) pl).trans p1; have p2 := (hb.cell (p := ⟨g, 2, none⟩) pl).trans p2; have pl := Nat.lt_of_lt_of_le pl hb.size; have hz1 := hb.size; have HBl := Lib.hid hb; clear hb)
     | (go_at_call 95; refine (HO1.out _).mono ?_; rintro e w2 ⟨rfl, hb⟩; have p2 := (hb.cell (p := ⟨g, 2, none⟩) pl).trans p2; have hz2 := hb.size; have HBl2 := Lib.hid hb; clear hb)
     | (go_at_call 78; refine (HON.out _ (by (repeat' first | exact Below.refl _ _ | assumption | (apply below_drewN) | (refine Below.setCell ?_ (by (try simp); (try omega)) _) | (refine Below.alloc ?_ (by (try simp); (try omega)) _) | (refine Below.trans ?_ (Below.mono (Hid.out (by assumption)) (by (try simp); (try omega))))))).mono ?_; rintro e w3 ⟨rfl, hb⟩; have HBl3 := Lib.hid hb; clear hb))
    go_ret
    exact ⟨by rw [HLB.out]; rfl, HBW.out.trans ((by (repeat' first | exact Below.refl _ _ | assumption | (apply below_drewN) | (refine Below.setCell ?_ (by (try simp); (try omega)) _) | (refine Below.alloc ?_ (by (try simp); (try omega)) _) | (refine Below.trans ?_ (Below.mono (Hid.out (by assumption)) (by (try simp); (try omega))))) : Below wr.heap.size wr _).mono HBW.out.size)⟩
end Go.Proofs.YtngddecpfhlilaaGreat
namespace Go.Proofs.YtngddecpfhlilaaGreat
open Go.RowKit
theorem eg_rc : ∀ args w, (callFunc 51 args).run Tryz.prog w = .ok (.enter 51 args) w := enters_of Tryz.func51 (by kernel_rfl) rfl
theorem eg_tk : ∀ args w, (callFunc 130 args).run Tryz.prog w = .ok (.enter 130 args) w := enters_of Tryz.func130 (by kernel_rfl) rfl
theorem rightC_any (A : Option Addr) (cap : Nat) (L : List Lt) (n : Int) (pb : Nat) (w : World) (h : LtIn w A cap L) (ha : AscL L) (hp : w.cell? ⟨pb, 0, none⟩ = some (.slice A L.length cap)) (hpl : pb < w.heap.size) :
  Calls Tryz.prog 51 #[.int .i64 n, .pointer (some ⟨pb, 0, none⟩)] w (BlIs (isIn L n) w) := by
 have HI := Lib.hid (fun w' (hb : Below w.heap.size w w') => there_any A cap L n w' (h.below hb) ha)
 clear h ha
 generalize isIn L n = z at *
 go_enter Tryz.func51, Tryz.ntmps51
 go_wp2_with fail
 refine (HI.out _ (by (repeat' first | exact Below.refl _ _ | assumption | (apply below_drewN) | (refine Below.setCell ?_ (by (try simp); (try omega)) _) | (refine Below.alloc ?_ (by (try simp); (try omega)) _) | (refine Below.trans ?_ (Below.mono (Hid.out (by assumption)) (by (try simp); (try omega))))))).mono ?_
 rintro e w1 ⟨rfl, hb⟩
 have HB := Lib.hid hb; clear hb
 go_wp2_with fail
 go_ret
 exact ⟨rfl, by (repeat' first | exact Below.refl _ _ | assumption | (apply below_drewN) | (refine Below.setCell ?_ (by (try simp); (try omega)) _) | (refine Below.alloc ?_ (by (try simp); (try omega)) _) | (refine Below.trans ?_ (Below.mono (Hid.out (by assumption)) (by (try simp); (try omega)))))⟩
def tkB (n : Int) (t : Lt) : Bool := decide (t.id = n) || decide (n ∈ t.fr)
set_option maxHeartbeats 4000000 in
theorem takenC_any (t : Lt) (p : LtP) (n : Int) (pb : Nat) (w : World) (h : LtI w t p) (hp : w.cell? ⟨pb, 0, none⟩ = some (.int .i64 n)) (hpl : pb < w.heap.size) :
  Calls Tryz.prog 130 #[lvl t p, .pointer (some ⟨pb, 0, none⟩)] w (BlIs (tkB n t) w) := by
 have HC := Lib.hid (fun w' (hb : Below w.heap.size w w') => cont_any p.B p.d t.fr n w' (h.fr.below hb))
 clear h
 unfold lvl tkB
 generalize decide (n ∈ t.fr) = z at *
 by_cases c : t.id = n
 ·have hd : (t.id == n) = true := by simpa using c
  rw [decide_eq_true c]
  clear c
  go_enter Tryz.func130, Tryz.ntmps130
  go_wp2_with fail
  go_ret
  exact ⟨by simp, by (repeat' first | exact Below.refl _ _ | assumption | (apply below_drewN) | (refine Below.setCell ?_ (by (try simp); (try omega)) _) | (refine Below.alloc ?_ (by (try simp); (try omega)) _) | (refine Below.trans ?_ (Below.mono (Hid.out (by assumption)) (by (try simp); (try omega)))))⟩
 ·have hd : (t.id == n) = false := by simpa using c
  rw [decide_eq_false c]
  clear c
  go_enter Tryz.func130, Tryz.ntmps130
  go_wp2_with fail
  refine (HC.out _ (by (repeat' first | exact Below.refl _ _ | assumption | (apply below_drewN) | (refine Below.setCell ?_ (by (try simp); (try omega)) _) | (refine Below.alloc ?_ (by (try simp); (try omega)) _) | (refine Below.trans ?_ (Below.mono (Hid.out (by assumption)) (by (try simp); (try omega))))))).mono ?_
  rintro e w1 ⟨rfl, hb⟩
  have HB := Lib.hid hb; clear hb
  go_wp2_with fail
  go_ret
  exact ⟨by simp, by (repeat' first | exact Below.refl _ _ | assumption | (apply below_drewN) | (refine Below.setCell ?_ (by (try simp); (try omega)) _) | (refine Below.alloc ?_ (by (try simp); (try omega)) _) | (refine Below.trans ?_ (Below.mono (Hid.out (by assumption)) (by (try simp); (try omega)))))⟩
set_option maxHeartbeats 4000000 in
theorem taken_any (A : Option Addr) (cap : Nat) (L : List Lt) (n : Int) (w : World) (h : LtIn w A cap L) : Calls Tryz.prog 76 #[.slice A L.length cap, .int .i64 n] w (BlIs (takB L n) w) := by
 have HC : Hid (∀ w' pb, Below w.heap.size w w' → w'.cell? ⟨pb, 0, none⟩ = some (.int .i64 n) → pb < w'.heap.size → Calls Tryz.prog 82 #[.slice A L.length cap, .func (.func 130) #[] #[.pointer (some ⟨pb, 0, none⟩)]] w' (BlIs (takB L n) w')) := Lib.hid (fun w' pb hb h1 h2 => lcf_any 130 eg_tk #[.pointer (some ⟨pb, 0, none⟩)] (tkB n) A cap L w' (h.below hb) (fun j hj w2 hb2 q hq => takenC_any L[j] q n pb w2 hq ((hb2.cell (p := ⟨pb, 0, none⟩) h2).trans h1) (Nat.lt_of_lt_of_le h2 hb2.size)))
 clear h
 generalize takB L n = z at *
 go_enter Tryz.func76, Tryz.ntmps76
 go_wp2_with fail
 refine (HC.out _ _ (by (repeat' first | exact Below.refl _ _ | assumption | (apply below_drewN) | (refine Below.setCell ?_ (by (try simp); (try omega)) _) | (refine Below.alloc ?_ (by (try simp); (try omega)) _) | (refine Below.trans ?_ (Below.mono (Hid.out (by assumption)) (by (try simp); (try omega)))))) ?_ ?_).mono ?_
 ·first | (rw [Lib.cell_of_heap (heap_alloc_new w _)]; rfl) | (simp; done)
 ·simp
 rintro e w1 ⟨rfl, hb⟩
 have HB1 := Lib.hid hb; clear hb
 go_wp2_with fail
 go_ret
 exact ⟨rfl, by (repeat' first | exact Below.refl _ _ | assumption | (apply below_drewN) | (refine Below.setCell ?_ (by (try simp); (try omega)) _) | (refine Below.alloc ?_ (by (try simp); (try omega)) _) | (refine Below.trans ?_ (Below.mono (Hid.out (by assumption)) (by (try simp); (try omega)))))⟩
def cellsR (L : List Lt) : List Rc := L.flatMap fun t => t.ar
theorem cellsR_len : ∀ {L : List Lt}, (∀ t ∈ L, t.ar.length ≤ 200) → (cellsR L).length ≤ 200 * L.length
 | [], _ => by simp [cellsR]
 | t :: L, h => by
  have ih := cellsR_len (L := L) (fun u hu => h u (by simp [hu]))
  have := h t (by simp)
  rw [show cellsR (t :: L) = t.ar ++ cellsR L from rfl, List.length_append, List.length_cons]; omega
def RsIs (F : List Rc) (w : World) (e : Ending) (w' : World) : Prop := ∃ A c, e = .returned (.slice A F.length c) ∧ RIn w' A c F ∧ Below w.heap.size w w'
structure CeW (v : Value) (F : List Rc) (w wr : World) : Prop where
 own : wr.ownsRow w.heap.size 68 4 v F.length (rcells F)
 bel : Below w.heap.size w wr
set_option maxHeartbeats 16000000 in
theorem cells_any (A : Option Addr) (cap : Nat) (L : List Lt) (w : World) (h : LtIn w A cap L) (hne : ∀ t ∈ L, t.ar ≠ [] ∧ t.ar.length ≤ 200) (hl : L.length ≤ 1073741824) : Calls Tryz.prog 54 #[.slice A L.length cap] w (RsIs (cellsR L) w) := by
 obtain ⟨i0, hi9, hz0, hz1, hz2⟩ := info_parts infoRect
 have HL := Lib.hid h; clear h
 have HNE := Lib.hid hne; clear hne
 have HZ : Hid (∀ k, k ≤ L.length → (cellsR (L.take k)).length ≤ 200 * k) := Lib.hid (fun k hk => by
  have := cellsR_len (L := L.take k) (fun t ht => (HNE.out t (List.mem_of_mem_take ht)).2)
  rw [List.length_take] at this
  omega)
 go_enter Tryz.func54, Tryz.ntmps54
 go_wp2_with fail
 go_loopw [3, 8] (fun v i wr => ∃ (k : Nat) (a : Value), k ≤ L.length ∧ i = .int .i64 k ∧ a = v ∧ Hid (CeW a (cellsR (L.take k)) w wr)) (fun _ i _ => L.length - (intOf i).toNat)
 case atStart => exact ⟨0, _, Nat.zero_le _, rfl, rfl, Lib.hid ⟨World.ownsRow_nil _ _ _ _, Below.refl _ _⟩⟩
 case round =>
  obtain ⟨k, v, hk, rfl, rfl, HK⟩ := hrel
  by_cases hlt : k < L.length
  ·obtain ⟨b, o, p, rfl, hb, ⟨x0, x1, x2, x3⟩, hi⟩ := HL.out.at_ hlt
   have wc := fun o => HK.out.bel.cell (p := ⟨b, o, none⟩) hb
   have x0 := (wc _).trans x0; have x1 := (wc _).trans x1; have x2 := (wc _).trans x2; have x3 := (wc _).trans x3
   clear wc
   have n0 : (0 : Int) ≤ (k : Int) := by omega
   have n1 : (k : Int) < (L.length : Int) := by omega
   have HN : Hid (cellsR (L.take (k + 1)) = cellsR (L.take k) ++ L[k].ar) := Lib.hid (by rw [← List.take_append_getElem hlt]; unfold cellsR; rw [List.flatMap_append]; simp)
   have HZ1 := Lib.hid (HZ.out k hk)
   have hu2 := (HNE.out L[k] (List.getElem_mem hlt)).2
   have hu1 := (HNE.out L[k] (List.getElem_mem hlt)).1
   have HRI := Lib.hid (fun w' (hb : Below w.heap.size w w') => hi.ar.below hb)
   clear hi
   generalize L[k] = u at *
   obtain ⟨F, hF⟩ : ∃ F, F = cellsR (L.take k) := ⟨_, rfl⟩
   rw [← hF] at HK HN HZ1
   clear hF
   obtain ⟨id, ow, ar, fr⟩ := u
   obtain ⟨PA, PC, PB, PD⟩ := p
   simp only at x0 x1 x2 x3 hu1 hu2 HN HRI
   have HKA : Hid (CeW v F w (wr.alloc (.cells #[.int .i64 id, .int .i64 ow, .slice PA ar.length PC, .slice PB fr.length PD] 40))) := Lib.hid ⟨HK.out.own.alloc _, HK.out.bel.alloc HK.out.bel.size _⟩
   have HSR : Hid (Src (wr.alloc (.cells #[.int .i64 id, .int .i64 ow, .slice PA ar.length PC, .slice PB fr.length PD] 40)) (.slice PA ar.length PC) ar.length (rcells ar)) := Lib.hid (src_of (HRI.out _ HKA.out.bel) (fun e => by
    obtain ⟨b, o, e2, _⟩ := (HRI.out _ HKA.out.bel).row (List.length_pos_iff.2 hu1)
    rw [e] at e2; cases e2))
   clear HK
   go_wp2_with (at_builtin; refine wpList_append_src rfl _ _ 30 rfl w.heap.size 68 i0 (.agg #[.int .i64 0, .int .i64 0, .int .i64 0, .int .i64 0]) 32 Tryz.underlying30 hi9 hz0 hz1 hz2 rfl _ _ _ rfl HKA.out.own _ _ _ rfl HSR.out ?q1 ?q2 ?q3 ?_)
   case q1 => have := HZ1.out; unfold maxLen; omega
   case q2 => have := HZ1.out; omega
   case q3 => have := HKA.out.bel.size; simpa using this
   intro v5 w5 hown5 hgr5
   have HK5 : Hid (CeW v5 (cellsR (L.take (k + 1))) w w5) := Lib.hid (by
    rw [HN.out]
    exact ⟨by rw [List.length_append, rcells_append]; exact hown5, HKA.out.bel.grown hgr5 HKA.out.bel.size (fun k hk => (HKA.out.own.lt k hk).1)⟩)
   clear hown5 hgr5 HSR HKA
   go_wp2_with fail
   go_roundw
   case rel => exact ⟨k + 1, v5, by omega, by go_num, rfl, HK5⟩
   case measure => simp [intOf]; omega
  ·obtain rfl : k = L.length := by omega
   have hz := HZ.out L.length (Nat.le_refl _)
   rw [List.take_length] at HK hz
   obtain ⟨A', c', e1, h1, h2, h3, _⟩ := own_rects HK.out.own
   have HF : Hid (RsIs (cellsR L) w (.returned v) wr) := Lib.hid ⟨A', c', by rw [e1], ⟨h1, by omega, h2, h3⟩, HK.out.bel⟩
   clear HK h1 h2 h3 e1
   go_wp2_with fail
   go_ret
   obtain ⟨A2, c2, e2, h2, h3⟩ := HF.out
   exact ⟨A2, c2, e2, h2.below (by (repeat' first | exact Below.refl _ _ | assumption | (apply below_drewN) | (refine Below.setCell ?_ (by (try simp); (try omega)) _) | (refine Below.alloc ?_ (by (try simp); (try omega)) _) | (refine Below.trans ?_ (Below.mono (Hid.out (by assumption)) (by (try simp); (try omega)))))), h3.trans (by (repeat' first | exact Below.refl _ _ | assumption | (apply below_drewN) | (refine Below.setCell ?_ (by (try simp); (try omega)) _) | (refine Below.alloc ?_ (by (try simp); (try omega)) _) | (refine Below.trans ?_ (Below.mono (Hid.out (by assumption)) (by (try simp); (try omega))))))⟩
end Go.Proofs.YtngddecpfhlilaaGreat
namespace Go.Proofs.YtngddecpfhlilaaGreat
open Go.RowKit
end Go.Proofs.YtngddecpfhlilaaGreat
namespace Go.Proofs.YtngddecpfhlilaaGreat
open Go.RowKit Go.ChangeShapes Go.WideShapes Go.ChangeAt Go.Joins Go.Deep
theorem cellsRects9 : Tryz.prog.cellsOf 30 = 1 := by kernel_rfl
section
variable {H : Type} {enc : TypeId × Value → H} {w : World} {held : Bool}
theorem open_row9 {cs : List Value} {n : Nat} {x : DataW H × List MemPlace} (hf : DataW.trod enc Tryz.prog w 0 (fun _ => true) held n 30 cs = some x) :
    ∃ (A : Option Addr) (c : Nat) (l : List Rc), cs = [.slice A l.length c] ∧ RRow w A l ∧ l.length ≤ c ∧ c ≤ 9223372036854775807 := by
  rcases open_slice Tryz.underlying30 hf with ⟨rfl, _⟩ | ⟨a, len, cap, m, n, D, Pl, rfl, _, hl, hm, hmm, _, hi⟩
  · exact ⟨none, 0, [], rfl, (fun h => absurd h (by simp)), by simp, by omega⟩
  · simp at hmm
    subst hmm
    rw [cellsRect] at hi
    obtain ⟨l, hll, hp⟩ := list_of (P := fun i (x : Rc) => InR x ∧ ∀ j u, [Value.int .i64 x.X0, .int .i64 x.Y0, .int .i64 x.X1, .int .i64 x.Y1][j]? = some u → w.cell? ((a.add (i * 4)).add j) = some u) len (fun i hlt => by
        obtain ⟨cs', hc, ht⟩ := hi i (by omega)
        exact each_rect hc ht)
    refine ⟨some a, m, l, by rw [hll], fun hn => ?_, by omega, by unfold maxLen at hm; omega⟩
    obtain ⟨b, off, spot⟩ := a
    obtain ⟨_, hc0⟩ := hp 0 hn
    have h0 := hc0 0 _ rfl
    have hspot : spot = none := by simpa [Addr.add] using World.cell?_spot h0
    subst hspot
    refine ⟨b, off, rfl, ?_, fun j hj => ?_⟩
    · have := World.block_lt_of_cell? w _ h0
      rw [add_at, add_at] at this
      exact this
    · obtain ⟨_, hc⟩ := hp j hj
      have hcc : ∀ q u, [Value.int .i64 l[j].X0, .int .i64 l[j].Y0, .int .i64 l[j].X1, .int .i64 l[j].Y1][q]? = some u → w.cell? ⟨b, off + j * 4 + q, none⟩ = some u := fun q u hu => by
        have := hc q u hu
        rw [add_at, add_at] at this
        exact this
      exact ⟨hcc 0 _ rfl, hcc 1 _ rfl, hcc 2 _ rfl, hcc 3 _ rfl⟩
end
end Go.Proofs.YtngddecpfhlilaaGreat
