/-
  Contracts of layer 13 (9): isLot, cells, isTaken.
  Contracts of the program's layer 9, 8: both, Union, Common, Minus.
-/
import Derived.Test.YtngddecpfhlilaaGreatD23
import Derived.Test.YtngddecpfhlilaaGreatD18
import Derived.Test.YtngddecpfhlilaaGreatD22
import Derived.Test.YtngddecpfhlilaaGreatD24
set_option linter.unusedVariables false
set_option maxRecDepth 100000
namespace Go.Proofs.YtngddecpfhlilaaGreat
open Go.RowKit
def frB (l : List Int) : Bool := decide (∀ j (h : j < l.length), nB l[j] = true ∧ ∀ h0 : 0 < j, l[j - 1] < l[j])
noncomputable def lotB (t : Lt) : Bool := frB t.fr && nB t.id && oB t.ow && oneB t.ar
set_option maxHeartbeats 16000000 in
theorem lot_any (t : Lt) (p : LtP) (w : World) (h : LtI w t p) : Calls Tryz.prog 49 #[lvl t p] w (BlIs (lotB t) w) := by
 obtain ⟨id, ow, ar, fr⟩ := t
 obtain ⟨PA, PC, PB, PD⟩ := p
 unfold lvl
 have HN := Lib.hid h.fr
 have HR := Lib.hid h.ar
 clear h
 have hlen := HN.out.len
 simp only at hlen HN HR ⊢
 have HAT := Lib.hid (LtAt.new w ⟨id, ow, ar, fr⟩ ⟨PA, PC, PB, PD⟩ w.heap.size rfl (n := ar.length) (m := fr.length) rfl rfl)
 simp only at HAT
 have HB0 : Hid (Below w.heap.size w (w.alloc (.cells #[.int .i64 id, .int .i64 ow, .slice PA ar.length PC, .slice PB fr.length PD] 40))) := Lib.hid ((Below.refl _ _).alloc (Nat.le_refl _) _)
 have HNUM := Lib.hid (fun n W' => num_any n W')
 have HOWN := Lib.hid (fun n W' => own_any n W')
 have HONE := Lib.hid (fun W' (hb : Below w.heap.size w W') => one_any PA PC ar W' (HR.out.below hb))
 have HLB : Hid (lotB ⟨id, ow, ar, fr⟩ = (frB fr && nB id && oB ow && oneB ar)) := Lib.hid rfl
 generalize lotB ⟨id, ow, ar, fr⟩ = z at *
 generalize oneB ar = zo at *
 clear HR
 have HC0 : Hid (∀ w', LtAt w' w.heap.size ⟨id, ow, ar, fr⟩ ⟨PA, PC, PB, PD⟩ → w'.cell? ⟨w.heap.size, 0, none⟩ = some (.int .i64 id) ∧ w'.cell? ⟨w.heap.size, 1, none⟩ = some (.int .i64 ow) ∧ w'.cell? ⟨w.heap.size, 2, none⟩ = some (.slice PA ar.length PC) ∧ w'.cell? ⟨w.heap.size, 3, none⟩ = some (.slice PB fr.length PD)) := Lib.hid (fun w' h => h.c)
 generalize ar.length = na at *
 go_enter Tryz.func49, Tryz.ntmps49
 go_upto_region 1 with fail
 generalize w.alloc (.cells #[.int .i64 id, .int .i64 ow, .slice PA na PC, .slice PB fr.length PD] 40) = wq at *
 obtain ⟨g, hg⟩ : ∃ g, g = w.heap.size := ⟨_, rfl⟩
 rw [← hg] at HC0 HAT
 simp only [← hg]
 clear hg
 obtain ⟨q0, q1, q2, q3⟩ := HC0.out _ HAT.out
 have ql := HAT.out.lt
 have HF : Hid (frB fr = decide (∀ j (h : j < fr.length), nB fr[j] = true ∧ ∀ h0 : 0 < j, fr[j - 1] < fr[j])) := Lib.hid rfl
 go_wp2_with fail
 go_loopw [8] (fun i wr => ∃ (k : Nat), k ≤ fr.length ∧ i = .int .i64 k ∧ Hid (Below wq.heap.size wq wr) ∧ Hid (∀ j (h : j < fr.length), j < k → nB fr[j] = true ∧ ∀ h0 : 0 < j, fr[j - 1] < fr[j])) (fun i _ => fr.length - (intOf i).toNat)
 case atStart => exact ⟨0, Nat.zero_le _, rfl, Lib.hid (Below.refl _ _), Lib.hid (fun j h hj => absurd hj (Nat.not_lt_zero _))⟩
 case round =>
  obtain ⟨k, hk, rfl, HB, HT⟩ := hrel
  have hbs := HB.out.size
  have wc := fun i => HB.out.cell (p := ⟨g, i, none⟩) ql
  have p0 := (wc _).trans q0; have p1 := (wc _).trans q1; have p2 := (wc _).trans q2; have p3 := (wc _).trans q3
  have pl : g < wr.heap.size := Nat.lt_of_lt_of_le ql hbs
  clear wc
  have HBW := Lib.hid (HB0.out.trans (HB.out.mono HB0.out.size))
  by_cases hlt : k < fr.length
  ·obtain ⟨b, o, rfl, hb, hv⟩ := HN.out.row (by omega)
   have wb := fun i => HBW.out.cell (p := ⟨b, i, none⟩) hb
   have x0 := (wb _).trans (hv k hlt)
   have n0 : (0 : Int) ≤ (k : Int) := by omega
   have n1 : (k : Int) < (fr.length : Int) := by omega
   have HNN := Lib.hid (HNUM.out fr[k])
   have HNO := Lib.hid (fun (c : ¬ (nB fr[k] = true ∧ ∀ h0 : 0 < k, fr[k - 1] < fr[k])) => show z = false from by
    rw [HLB.out, HF.out, decide_eq_false (fun h => c (h k hlt))]; simp)
   have HTK := Lib.hid (fun (c : nB fr[k] = true ∧ ∀ h0 : 0 < k, fr[k - 1] < fr[k]) j (h : j < fr.length) (hj : j < k + 1) => show nB fr[j] = true ∧ ∀ h0 : 0 < j, fr[j - 1] < fr[j] from by
    by_cases e : j < k
    ·exact HT.out j h e
    ·obtain rfl : j = k := by omega
     exact c)
   clear HT
   cases cn : nB fr[k] with
   | false =>
    have HZ := Lib.hid (HNO.out (fun h => by rw [cn] at h; exact absurd h.1 (by decide)))
    rw [cn] at HNN
    clear HNO HTK cn hv wb
    generalize fr[k] = y at *
    go_wp2_with (go_at_call 74; refine (HNN.out _).mono ?_; rintro e w1 ⟨rfl, hb⟩; have HBl := Lib.hid hb; clear hb)
    go_ret
    exact ⟨by rw [HZ.out]; rfl, HBW.out.trans ((by (repeat' first | exact Below.refl _ _ | assumption | (apply below_drewN) | (refine Below.setCell ?_ (by (try simp); (try omega)) _) | (refine Below.alloc ?_ (by (try simp); (try omega)) _) | (refine Below.trans ?_ (Below.mono (Hid.out (by assumption)) (by (try simp); (try omega))))) : Below wr.heap.size wr _).mono HBW.out.size)⟩
   | true =>
    rw [cn] at HNN
    rcases Nat.eq_zero_or_pos k with k0 | k0
    ·subst k0
     have HT2 := Lib.hid (HTK.out ⟨cn, fun h0 => absurd h0 (by omega)⟩)
     simp only [Nat.add_zero] at x0
     clear HNO HTK cn hv wb
     generalize fr[0] = y at *
     go_wp2_with (go_at_call 74; refine (HNN.out _).mono ?_; rintro e w1 ⟨rfl, hb⟩; have HBl := Lib.hid hb; clear hb)
     go_roundw
     case rel => exact ⟨0 + 1, by omega, by go_num, Lib.hid (HB.out.trans ((by (repeat' first | exact Below.refl _ _ | assumption | (apply below_drewN) | (refine Below.setCell ?_ (by (try simp); (try omega)) _) | (refine Below.alloc ?_ (by (try simp); (try omega)) _) | (refine Below.trans ?_ (Below.mono (Hid.out (by assumption)) (by (try simp); (try omega))))) : Below wr.heap.size wr _).mono hbs)), HT2⟩
     case measure => simp [intOf]; omega
    ·obtain ⟨k', rfl⟩ : ∃ i, k = i + 1 := ⟨k - 1, by omega⟩
     have x1 := (wb _).trans (hv k' (by omega))
     have g0 : (0 : Int) < ((k' + 1 : Nat) : Int) := by omega
     have r1 : ((k' + 1 : Nat) : Int) - 1 = (k' : Int) := by omega
     have m0 : (0 : Int) ≤ (k' : Int) := by omega
     have m1 : (k' : Int) < (fr.length : Int) := by omega
     have HP1 := Lib.hid (fun (c : fr[k'] < fr[k' + 1]) => HTK.out ⟨cn, fun h0 => c⟩)
     have HP2 := Lib.hid (fun (c : ¬ fr[k'] < fr[k' + 1]) => HNO.out (fun h => c (h.2 (by omega))))
     clear HNO HTK cn hv wb
     generalize fr[k' + 1] = y at *
     generalize fr[k'] = y' at *
     by_cases c : y ≤ y'
     ·have hd := decide_eq_true c
      have HZ := Lib.hid (HP2.out (by omega))
      clear HP1 HP2
      go_wp2_with fail
      refine (HNN.out _).mono ?_
      rintro e w1 ⟨rfl, hb⟩
      have hbl := Nat.lt_of_lt_of_le ‹b < w.heap.size› HBW.out.size
      have x1 := (hb.cell (p := ⟨b, _, none⟩) hbl).trans x1
      have p3 := (hb.cell (p := ⟨g, 3, none⟩) pl).trans p3
      have HBl := Lib.hid hb
      clear hb
      go_wp2_with fail
      go_ret
      exact ⟨by rw [HZ.out]; rfl, HBW.out.trans ((by (repeat' first | exact Below.refl _ _ | assumption | (apply below_drewN) | (refine Below.setCell ?_ (by (try simp); (try omega)) _) | (refine Below.alloc ?_ (by (try simp); (try omega)) _) | (refine Below.trans ?_ (Below.mono (Hid.out (by assumption)) (by (try simp); (try omega))))) : Below wr.heap.size wr _).mono HBW.out.size)⟩
     ·have hd := decide_eq_false c
      have HT2 := Lib.hid (HP1.out (by omega))
      clear HP1 HP2
      go_wp2_with fail
      refine (HNN.out _).mono ?_
      rintro e w1 ⟨rfl, hb⟩
      have hbl := Nat.lt_of_lt_of_le ‹b < w.heap.size› HBW.out.size
      have x1 := (hb.cell (p := ⟨b, _, none⟩) hbl).trans x1
      have p3 := (hb.cell (p := ⟨g, 3, none⟩) pl).trans p3
      have HBl := Lib.hid hb
      clear hb
      go_wp2_with fail
      go_roundw
      case rel => exact ⟨k' + 1 + 1, by omega, by go_num, Lib.hid (HB.out.trans ((by (repeat' first | exact Below.refl _ _ | assumption | (apply below_drewN) | (refine Below.setCell ?_ (by (try simp); (try omega)) _) | (refine Below.alloc ?_ (by (try simp); (try omega)) _) | (refine Below.trans ?_ (Below.mono (Hid.out (by assumption)) (by (try simp); (try omega))))) : Below wr.heap.size wr _).mono hbs)), HT2⟩
      case measure => simp [intOf]; omega
  ·obtain rfl : k = fr.length := by omega
   have HY : Hid (frB fr = true) := Lib.hid (by rw [HF.out]; exact decide_eq_true (fun j h => HT.out j h h))
   rw [HY.out, Bool.true_and] at HLB
   clear HT HF
   have HN1 := Lib.hid (HNUM.out id)
   have HO1 := Lib.hid (HOWN.out ow)
   have HON := Lib.hid (fun W' (hb : Below wr.heap.size wr W') => HONE.out W' (HBW.out.trans (hb.mono HBW.out.size)))
   have HBR := Lib.hid (Below.refl wr.heap.size wr)
   generalize nB id = z1 at *
   generalize oB ow = z2 at *
   have ARM : True := trivial
   cases z1 <;> cases z2
   all_goals
    go_wp2_with (first
     | (go_at_call 74; refine (HN1.out _).mono ?_; rintro e w1 ⟨rfl, hb⟩; have p1 := (hb.cell (p := ⟨g, 1, none⟩) pl).trans p1; have p2 := (hb.cell (p := ⟨g, 2, none⟩) pl).trans p2; have pl := Nat.lt_of_lt_of_le pl hb.size; have hz1 := hb.size; have HBl := Lib.hid hb; clear hb)
     | (go_at_call 95; refine (HO1.out _).mono ?_; rintro e w2 ⟨rfl, hb⟩; have p2 := (hb.cell (p := ⟨g, 2, none⟩) pl).trans p2; have hz2 := hb.size; have HBl2 := Lib.hid hb; clear hb)
     | (go_at_call 78; refine (HON.out _ (by (repeat' first | exact Below.refl _ _ | assumption | (apply below_drewN) | (refine Below.setCell ?_ (by (try simp); (try omega)) _) | (refine Below.alloc ?_ (by (try simp); (try omega)) _) | (refine Below.trans ?_ (Below.mono (Hid.out (by assumption)) (by (try simp); (try omega))))))).mono ?_; rintro e w3 ⟨rfl, hb⟩; have HBl3 := Lib.hid hb; clear hb))
    go_ret
    exact ⟨by rw [HLB.out]; rfl, HBW.out.trans ((by (repeat' first | exact Below.refl _ _ | assumption | (apply below_drewN) | (refine Below.setCell ?_ (by (try simp); (try omega)) _) | (refine Below.alloc ?_ (by (try simp); (try omega)) _) | (refine Below.trans ?_ (Below.mono (Hid.out (by assumption)) (by (try simp); (try omega))))) : Below wr.heap.size wr _).mono HBW.out.size)⟩
end Go.Proofs.YtngddecpfhlilaaGreat
namespace Go.Proofs.YtngddecpfhlilaaGreat
open Go.RowKit
theorem eg_bbc : ∀ args w, (callFunc 142 args).run Tryz.prog w = .ok (.enter 142 args) w := enters_of Tryz.func142 (by kernel_rfl) rfl
def htL (LL : List (List Sl)) : List Int := LL.flatMap htS
theorem htL_next (LL : List (List Sl)) (k : Nat) (h : k < LL.length) : htL (LL.take (k + 1)) = htL (LL.take k) ++ htS LL[k] := by
 unfold htL; rw [List.take_succ_eq_append_getElem h, List.flatMap_append]; simp
set_option maxHeartbeats 40000000 in
theorem bboth_any (K : Nat) (eg : ∀ args w, (callFunc K args).run Tryz.prog w = .ok (.enter K args) w) (op : Bool → Bool → Bool) (h0 : op false false = false) (hop : OpOk K op) (A1 : Option Addr) (c1 : Nat) (A2 : Option Addr) (c2 : Nat) (a b : List Sl) (w : World)
  (ha : SIn w A1 c1 a) (hb : SIn w A2 c2 b) : Calls Tryz.prog 90 #[.slice A1 a.length c1, .slice A2 b.length c2, .func (.func K) #[] #[]] w (SolRes (opS op a b) w) := by
 obtain ⟨W, hW⟩ : ∃ W, W = ((w.alloc (.cells #[.slice A1 a.length c1] 64)).alloc (.cells #[.slice A2 b.length c2] 64)).alloc (.cells #[.func (.func K) #[] #[]] 52) := ⟨_, rfl⟩
 have hwW : Below w.heap.size w W := by rw [hW]; exact (((Below.refl _ _).alloc (Nat.le_refl _) _).alloc (by simp) _).alloc (by simp; omega) _
 have g0 : W.heap[w.heap.size]? = some (.cells #[.slice A1 a.length c1] 64 (0, 0)) := by
  have e1 := heap_alloc_new w (.cells #[.slice A1 a.length c1] 64)
  have hb1 : Below (w.heap.size + 1) (w.alloc (.cells #[.slice A1 a.length c1] 64)) W := by rw [hW]; exact ((Below.refl _ _).alloc (by simp) _).alloc (by simp) _
  exact (hb1.block _ (by omega)).trans e1
 have g1 : W.heap[w.heap.size + 1]? = some (.cells #[.slice A2 b.length c2] 64 (0, 0)) := by
  have e1 := heap_alloc_new (w.alloc (.cells #[.slice A1 a.length c1] 64)) (.cells #[.slice A2 b.length c2] 64)
  rw [show (w.alloc (.cells #[.slice A1 a.length c1] 64)).heap.size = w.heap.size + 1 by simp] at e1
  have hb1 : Below (w.heap.size + 2) ((w.alloc (.cells #[.slice A1 a.length c1] 64)).alloc (.cells #[.slice A2 b.length c2] 64)) W := by rw [hW]; exact (Below.refl _ _).alloc (by simp) _
  exact (hb1.block _ (by omega)).trans e1
 have g2 : W.heap[w.heap.size + 2]? = some (.cells #[.func (.func K) #[] #[]] 52 (0, 0)) := by
  have e1 := heap_alloc_new ((w.alloc (.cells #[.slice A1 a.length c1] 64)).alloc (.cells #[.slice A2 b.length c2] 64)) (.cells #[.func (.func K) #[] #[]] 52)
  rw [show ((w.alloc (.cells #[.slice A1 a.length c1] 64)).alloc (.cells #[.slice A2 b.length c2] 64)).heap.size = w.heap.size + 2 by simp] at e1
  rw [hW]; exact e1
 have hlt2 : w.heap.size + 2 < W.heap.size := (Array.getElem?_eq_some_iff.1 g2).1
 have hzx : Zx (w.heap.size + 2) w.heap.size (w.heap.size + 1) K A1 a.length c1 A2 b.length c2 W W := ⟨by rw [Lib.cell_of_heap g2]; rfl, by rw [Lib.cell_of_heap g0]; rfl, by rw [Lib.cell_of_heap g1]; rfl, hlt2, by omega, by omega, Lib.hid (Below.refl _ _)⟩
 have HZX : Hid (∀ w', Below W.heap.size W w' → Zx (w.heap.size + 2) w.heap.size (w.heap.size + 1) K A1 a.length c1 A2 b.length c2 W w') := Lib.hid (fun w' hb => hzx.go hb)
 have HA := Lib.hid (ha.below hwW); have HB := Lib.hid (hb.below hwW); have HWW := Lib.hid hwW
 obtain ⟨y2, y0, y1, yl2, yl0, yl1, _⟩ := hzx
 obtain ⟨i0, hi9, hz0, hz1, hz2⟩ := info_parts infoInt
 have FALSE : Hid (∀ w', Below W.heap.size W w' → ¬ (SolP a ∧ SolP b) → SolRes (opS op a b) w (.returned (.tuple #[.slice none 0 0, .int .i64 1])) w') := Lib.hid (fun w' hb hn => by
  rw [opS_arg hn]
  exact ⟨none, 0, rfl, SIn.nil _, HWW.out.trans (hb.mono HWW.out.size)⟩)
 clear ha hb hwW g0 g1 g2
 by_cases pa : SolP a
 ·have HRA := Lib.hid (bright_yes HA.out pa)
  by_cases pb : SolP b
  ·have HRB := Lib.hid (fun w' (h : Below W.heap.size W w') => bright_yes (HB.out.below h) pb)
   have HPA := Lib.hid pa; have HPB := Lib.hid pb
   have hal := pa.len; have hbl := pb.len
   clear pa pb FALSE
   go_enter Tryz.func90, Tryz.ntmps90
   go_wp2_with fail
   rw [← hW]
   clear hW
   refine HRA.out.mono ?_
   rintro e w1 ⟨rfl, hb1⟩
   obtain ⟨y2, y0, y1, yl2, yl0, yl1, _⟩ := HZX.out w1 hb1
   have HRB1 := Lib.hid (HRB.out w1 hb1)
   have HB1 := Lib.hid hb1
   clear hb1 HRA HRB
   go_wp2_with fail
   refine HRB1.out.mono ?_
   rintro e w2 ⟨rfl, hb2⟩
   have HB2 := Lib.hid (HB1.out.trans (hb2.mono HB1.out.size))
   clear hb2 HRB1 HB1 y0 y1 y2 yl0 yl1 yl2
   obtain ⟨y2, y0, y1, yl2, yl0, yl1, _⟩ := HZX.out w2 HB2.out
   obtain ⟨WL, hWL⟩ : ∃ WL, WL = w2.alloc (.cells #[.slice A1 a.length c1, .slice A2 b.length c2] 64) := ⟨_, rfl⟩
   have HBL : Hid (Below W.heap.size W WL) := Lib.hid (by rw [hWL]; exact HB2.out.alloc HB2.out.size _)
   have gl : WL.heap[w2.heap.size]? = some (.cells #[.slice A1 a.length c1, .slice A2 b.length c2] 64 (0, 0)) := by rw [hWL]; exact heap_alloc_new w2 _
   have hltL : w2.heap.size < WL.heap.size := (Array.getElem?_eq_some_iff.1 gl).1
   have HLL : Hid (∀ k (h : k < [a, b].length), ∃ A c, (∀ wr, Below WL.heap.size WL wr → wr.cell? ⟨w2.heap.size, k, none⟩ = some (.slice A ([a, b][k]).length c)) ∧ SIn WL A c [a, b][k] ∧ ([a, b][k]).length ≤ 80) := Lib.hid (by
    intro k hk
    have hk2 : k = 0 ∨ k = 1 := by simp at hk; omega
    rcases hk2 with rfl | rfl
    ·exact ⟨A1, c1, fun wr hb => (hb.cell (p := ⟨w2.heap.size, 0, none⟩) hltL).trans (by rw [Lib.cell_of_heap gl]; rfl), HA.out.below HBL.out, hal⟩
    ·exact ⟨A2, c2, fun wr hb => (hb.cell (p := ⟨w2.heap.size, 1, none⟩) hltL).trans (by rw [Lib.cell_of_heap gl]; rfl), HB.out.below HBL.out, hbl⟩)
   have I0 : Hid (IW (.slice none 0 0) (htL ([a, b].take 0)) WL WL) := Lib.hid ⟨World.ownsRow_nil _ _ _ _, Below.refl _ _⟩
   have hl2 : ([a, b] : List (List Sl)).length = 2 := rfl
   clear gl
   go_wp2_with fail
   rw [← hWL]
   clear hWL y0 y1 y2 yl0 yl1 yl2
   obtain ⟨LL, hLLe⟩ : ∃ LL, LL = [a, b] := ⟨_, rfl⟩
   rw [← hLLe] at HLL I0 hl2
   have HLE := Lib.hid hLLe
   clear hLLe
   go_loopw [8, 25] (fun v i wr => ∃ (k : Nat) (v0 : Value), k ≤ 2 ∧ i = .int .i64 k ∧ v0 = v ∧ Hid (IW v0 (htL (LL.take k)) WL wr) ∧ (htL (LL.take k)).length ≤ 160 * k) (fun _ i _ => 2 - (intOf i).toNat)
   case atStart => exact ⟨0, _, by omega, rfl, rfl, I0, by simp [htL]⟩
   case round =>
    clear I0
    obtain ⟨k, v, hk, rfl, rfl, HI, hIl⟩ := hrel
    by_cases hlt : k < 2
    ·obtain ⟨A', c', hcell, hin, hSl⟩ := HLL.out k (by omega)
     have x0 := hcell wr HI.out.bel
     have HNL := Lib.hid (htL_next LL k (by omega))
     obtain ⟨S, hS⟩ : ∃ S, S = LL[k]'(by omega) := ⟨_, rfl⟩
     rw [← hS] at x0 hin hSl HNL
     clear hS hcell
     have HIN := Lib.hid hin
     have j0 : (0 : Int) ≤ (k : Int) := by omega
     have j1 : (k : Int) < 2 := by omega
     have hwz := HI.out.bel.size
     have hgl : w2.heap.size < wr.heap.size := Nat.lt_of_lt_of_le hltL hwz
     generalize htL (LL.take k) = P at *
     have B1 : Hid (IW v (P ++ htS (S.take 0)) WL wr) := Lib.hid (by rw [show htS (S.take 0) = [] from rfl, List.append_nil]; exact HI.out)
     clear HI hin
     go_wp2_with fail
     go_loopw [8, 31] (fun v i w2 => ∃ (j : Nat) (v0 : Value), j ≤ S.length ∧ i = .int .i64 j ∧ v0 = v ∧ Hid (IW v0 (P ++ htS (S.take j)) WL w2)) (fun _ i _ => S.length - (intOf i).toNat)
     case atStart => exact ⟨0, _, Nat.zero_le _, rfl, rfl, B1⟩
     case round =>
      clear B1 x0 hgl
      obtain ⟨j, v, hj, rfl, rfl, HI⟩ := hrel
      by_cases hjt : j < S.length
      ·obtain ⟨b1, o1, rfl, hb1, hv1⟩ := HIN.out.row (by omega)
       obtain ⟨x0, x1, Aj, cj, x2, _⟩ := hv1 j hjt
       have wc := fun o => HI.out.bel.cell (p := ⟨b1, o, none⟩) hb1
       have x0 := (wc _).trans x0; have x1 := (wc _).trans x1; have x2 := (wc _).trans x2
       have hbs := HI.out.bel.size
       have hbw : b1 < wr.heap.size := Nat.lt_of_lt_of_le hb1 hbs
       have n0 : (0 : Int) ≤ (j : Int) := by omega
       have n1 : (j : Int) < (S.length : Int) := by omega
       have HN := Lib.hid (htS_next S j hjt)
       have htl : (P ++ htS (S.take j)).length ≤ 480 := by rw [List.length_append, htS_len, List.length_take]; omega
       obtain ⟨u, hu⟩ : ∃ u, u = S[j] := ⟨_, rfl⟩
       rw [← hu] at x0 x1 x2 HN
       clear hu hv1 wc
       obtain ⟨F, hF⟩ : ∃ F, F = P ++ htS (S.take j) := ⟨_, rfl⟩
       have HN2 : Hid (P ++ htS (S.take (j + 1)) = F ++ [u.z0, u.z1]) := Lib.hid (by rw [HN.out, hF, List.append_assoc])
       rw [← hF] at HI htl
       clear hF HN
       have HO := Lib.hid HI.out.own
       go_wp2_with (at_builtin; refine wpList_append_own _ rfl _ _ 31 rfl WL.heap.size 3 i0 (.int .i64 0) 1 8 Tryz.underlying31 hi9 hz0 hz1 hz2 rfl (by decide) _ _ _ rfl ((HO.out.alloc _).alloc _) ⟨wr.heap.size + 1, 0, none⟩ 2 2 [.int .i64 u.z0, .int .i64 u.z1] rfl rfl ?c1 ?c2 ?c3 ?c4 ?c5 ?_)
       case c1 =>
        intro t u ht
        match t, ht with
        | 0, ht => simp at ht; subst ht; simp [Addr.add]
        | 1, ht => simp at ht; subst ht; simp [Addr.add]
       case c2 => intro u hu; simp at hu; rcases hu with rfl | rfl <;> rfl
       case c3 => unfold maxLen; omega
       case c4 => omega
       case c5 => simp; omega
       intro v3 w4 hown3 hgr3 _
       have HX : Hid (IW v3 (P ++ htS (S.take (j + 1))) WL w4) := Lib.hid ⟨by rw [HN2.out, List.length_append, icells_append]; exact hown3, Below.grown ((HI.out.bel.alloc hbs _).alloc (by simp; omega) _) hgr3 (by simp; omega) (fun k hk => (HO.out.lt k hk).1)⟩
       clear hown3 hgr3 HO HI HN2 x0 x1 x2
       go_wp2_with fail
       go_roundw
       case rel => exact ⟨j + 1, _, by omega, by go_num, rfl, HX⟩
       case measure => simp [intOf]; omega
      ·obtain rfl : j = S.length := by omega
       have HX : Hid (IW v (htL (LL.take (k + 1))) WL wr) := Lib.hid (by
        have := HI.out
        rw [List.take_length] at this
        rw [HNL.out]; exact this)
       have hX2 : (htL (LL.take (k + 1))).length ≤ 160 * (k + 1) := by rw [HNL.out, List.length_append, htS_len]; omega
       clear HI HNL
       go_wp2_with fail
       go_roundw
       case rel => exact ⟨k + 1, _, by omega, by go_num, rfl, HX, hX2⟩
       case measure => simp [intOf]; omega
    ·obtain rfl : k = 2 := by omega
     have hI := HI.out
     have hLL2 : htL (LL.take 2) = htS a ++ htS b := by rw [HLE.out]; simp [htL]
     rw [hLL2] at hI
     obtain ⟨A3, c3, rfl, _⟩ := own_parts hI.own
     have hn4 : (htS a ++ htS b).length ≤ 320 := by rw [List.length_append, htS_len, htS_len]; omega
     have EQ : Hid (opS op a b = capS (solO op a b)) := Lib.hid (opS_cap HPA.out HPB.out)
     have HFORM : Hid (Calls Tryz.prog 87 #[.slice A3 (htS a ++ htS b).length c3, .func (.func 142) #[] #[.pointer (some ⟨w.heap.size + 2, 0, none⟩), .pointer (some ⟨w.heap.size, 0, none⟩), .pointer (some ⟨w.heap.size + 1, 0, none⟩)]] wr (SolRes (opS op a b) w)) := Lib.hid (by
      have := bform_any WL 142 #[.pointer (some ⟨w.heap.size + 2, 0, none⟩), .pointer (some ⟨w.heap.size, 0, none⟩), .pointer (some ⟨w.heap.size + 1, 0, none⟩)] eg_bbc (secO op a b) (htS a ++ htS b) (.slice A3 (htS a ++ htS b).length c3) wr (secO_form h0 HPA.out.form HPB.out.form) (fun x hx => by
       rcases List.mem_append.1 hx with h | h
       ·exact htS_in HPA.out.form x h
       ·exact htS_in HPB.out.form x h) (chgO h0 HPA.out.form HPB.out.form) (fun z w' hb => by
       show Calls Tryz.prog 142 #[.int .i64 z, .pointer (some ⟨w.heap.size + 2, 0, none⟩), .pointer (some ⟨w.heap.size, 0, none⟩), .pointer (some ⟨w.heap.size + 1, 0, none⟩)] w' _
       have hbw := HBL.out.trans (hb.mono HBL.out.size)
       obtain ⟨k0, k1, k2, k3, k4, k5, _⟩ := HZX.out w' hbw
       exact bbothC_any K eg op hop _ _ _ A1 c1 A2 c2 a b z w' ⟨k0, k1, k2, k3, k4, k5, Lib.hid (Below.refl _ _)⟩ (HA.out.below hbw) (HB.out.below hbw) HPA.out HPB.out) hI.own hI.bel (by omega)
      rw [EQ.out]
      exact this.mono fun e w' h => h.base (HWW.out.trans (HBL.out.mono HWW.out.size)))
     have HPT : Hid (∀ e w', SolRes (opS op a b) w e w' → ∃ A4 c4, e = .returned (.tuple #[.slice A4 (opS op a b).1.length c4, .int .i64 (opS op a b).2]) ∧ Hid (SolRes (opS op a b) w (.returned (.tuple #[.slice A4 (opS op a b).1.length c4, .int .i64 (opS op a b).2])) w')) := Lib.hid (fun e w' h => by
      obtain ⟨A4, c4, rfl, h2⟩ := h
      exact ⟨A4, c4, rfl, Lib.hid ⟨A4, c4, rfl, h2⟩⟩)
     clear hI HI EQ hLL2 hIl HLL HLE
     generalize (htS a ++ htS b).length = nh at *
     generalize opS op a b = R at *
     obtain ⟨n2, hn2⟩ : ∃ n2, n2 = R.1.length := ⟨_, rfl⟩
     obtain ⟨r2, hr2⟩ : ∃ r2, r2 = R.2 := ⟨_, rfl⟩
     rw [← hn2, ← hr2] at HPT
     clear hn2 hr2
     go_wp2_with fail
     refine HFORM.out.mono ?_
     intro e w3 hres
     obtain ⟨A4, c4, rfl, HF4⟩ := HPT.out e w3 hres
     clear hres HPT HFORM
     go_wp2_with fail
     go_ret2
     exact HF4.out
  ·have HRB := Lib.hid (fun w' (h : Below W.heap.size W w') => bright_no (HB.out.below h) pb)
   have NO : Hid (¬ (SolP a ∧ SolP b)) := Lib.hid (fun h => pb h.2)
   clear pa pb
   go_enter Tryz.func90, Tryz.ntmps90
   go_wp2_with fail
   rw [← hW]
   clear hW
   refine HRA.out.mono ?_
   rintro e w1 ⟨rfl, hb1⟩
   obtain ⟨y2, y0, y1, yl2, yl0, yl1, _⟩ := HZX.out w1 hb1
   have HRB1 := Lib.hid (HRB.out w1 hb1)
   have HB1 := Lib.hid hb1
   clear hb1 HRA HRB
   go_wp2_with fail
   refine HRB1.out.mono ?_
   rintro e w2 ⟨rfl, hb2⟩
   have HB2 := Lib.hid (HB1.out.trans (hb2.mono HB1.out.size))
   clear hb2 HRB1 HB1
   go_wp2_with fail
   go_ret2
   exact FALSE.out _ HB2.out NO.out
 ·have HRA := Lib.hid (bright_no HA.out pa)
  have NO : Hid (¬ (SolP a ∧ SolP b)) := Lib.hid (fun h => pa h.1)
  clear pa
  go_enter Tryz.func90, Tryz.ntmps90
  go_wp2_with fail
  rw [← hW]
  clear hW
  refine HRA.out.mono ?_
  rintro e w1 ⟨rfl, hb1⟩
  have HB1 := Lib.hid hb1
  clear hb1 HRA
  go_wp2_with fail
  go_ret2
  exact FALSE.out _ HB1.out NO.out
theorem eg_gu : ∀ args w, (callFunc 33 args).run Tryz.prog w = .ok (.enter 33 args) w := enters_of Tryz.func33 (by kernel_rfl) rfl
theorem op_u : OpOk 33 or := fun A1 c1 A2 c2 a b w h1 h2 => gunion_any A1 c1 A2 c2 a b w h1 h2
set_option maxHeartbeats 4000000 in
theorem bunion_any (A1 : Option Addr) (c1 : Nat) (A2 : Option Addr) (c2 : Nat) (a b : List Sl) (w : World) (ha : SIn w A1 c1 a) (hb : SIn w A2 c2 b) : Calls Tryz.prog 37 #[.slice A1 a.length c1, .slice A2 b.length c2] w (SolRes (opS or a b) w) := by
 have HC := Lib.hid (bboth_any 33 eg_gu or rfl op_u A1 c1 A2 c2 a b w ha hb)
 clear ha hb
 go_enter Tryz.func37, Tryz.ntmps37
 go_wp2_with fail
 refine HC.out.mono ?_
 rintro e w3 ⟨A4, c4, rfl, h2⟩
 have HR : Hid (SolRes (opS or a b) w (.returned (.tuple #[.slice A4 (opS or a b).1.length c4, .int .i64 (opS or a b).2])) w3) := Lib.hid ⟨A4, c4, rfl, h2⟩
 clear h2 HC
 generalize (opS or a b).1.length = n2 at *
 generalize (opS or a b).2 = e2 at *
 go_wp2_with fail
 go_ret2
 exact HR.out
end Go.Proofs.YtngddecpfhlilaaGreat
