/-
  Contracts of the program's layer 8 (5): isDistance, Grow.
-/
import Derived.Test.YtcnojedijimheaaIk
import Derived.Test.YtcnojedijimheaaSd
import Derived.Test.YtcnojedijimheaaSf
set_option linter.unusedVariables false
set_option maxRecDepth 100000
namespace Go.Proofs.Ytcnojedijimheaa
open Go.RowKit

def DistP (d : Int) : Prop := 0 ≤ d ∧ d ≤ 1048576
instance (d : Int) : Decidable (DistP d) := by unfold DistP; infer_instance
theorem yisd_any (d : Int) (w : World) : Calls Try.prog 52 #[.int .i64 d] w (BlIs (decide (DistP d)) w) := by
  by_cases c0 : 0 ≤ d
  · by_cases c1 : d ≤ 1048576
    · rw [show decide (DistP d) = true from decide_eq_true ⟨c0, c1⟩]
      go_enter Try.func52, Try.ntmps52
      go_wp2
      go_ret
      exact ⟨rfl, by (repeat' first | exact Below.refl _ _ | assumption | (apply below_drewN) | (refine Below.setCell ?_ (by (try simp); (try omega)) _) | (refine Below.alloc ?_ (by (try simp); (try omega)) _) | (refine Below.trans ?_ (Below.mono (Hid.out (by assumption)) (by (try simp); (try omega)))))⟩
    · rw [show decide (DistP d) = false from decide_eq_false (fun h => c1 h.2)]
      go_enter Try.func52, Try.ntmps52
      go_wp2
      go_ret
      exact ⟨rfl, by (repeat' first | exact Below.refl _ _ | assumption | (apply below_drewN) | (refine Below.setCell ?_ (by (try simp); (try omega)) _) | (refine Below.alloc ?_ (by (try simp); (try omega)) _) | (refine Below.trans ?_ (Below.mono (Hid.out (by assumption)) (by (try simp); (try omega)))))⟩
  · rw [show decide (DistP d) = false from decide_eq_false (fun h => c0 h.1)]
    go_enter Try.func52, Try.ntmps52
    go_wp2
    go_ret
    exact ⟨rfl, by (repeat' first | exact Below.refl _ _ | assumption | (apply below_drewN) | (refine Below.setCell ?_ (by (try simp); (try omega)) _) | (refine Below.alloc ?_ (by (try simp); (try omega)) _) | (refine Below.trans ?_ (Below.mono (Hid.out (by assumption)) (by (try simp); (try omega)))))⟩
noncomputable def growM (l : List Rc) (d : Int) : List Rc × Int := if RegP l ∧ DistP d then capR (groF l d) else ([], 1)
theorem of_grown {l : List Rc} {d : Int} (hr : RegP l) (hd : DistP d) : ofR (grownL l d) = growM l d := by
  unfold growM
  rw [if_pos ⟨hr, hd⟩]
  unfold ofR
  rw [if_pos (grownL_ok (form_ok hr.1) hd.1), if_pos (by have := hr.2; unfold grownL; rw [List.length_map]; omega)]
  rfl
def FV (f : Rc → Rc) (l : List Rc) (k : Nat) : List Rc := (l.take k).map f ++ List.replicate (l.length - k) zR
theorem FV_len (f : Rc → Rc) (l : List Rc) (k : Nat) (h : k ≤ l.length) : (FV f l k).length = l.length := by simp [FV]; omega
theorem FV_zero (f : Rc → Rc) (l : List Rc) : FV f l 0 = List.replicate l.length zR := by simp [FV]
theorem FV_all (f : Rc → Rc) (l : List Rc) : FV f l l.length = l.map f := by simp [FV]
theorem FV_next (f : Rc → Rc) (l : List Rc) (k : Nat) (h : k < l.length) : (FV f l k).set k (f l[k]) = FV f l (k + 1) := by
  have hk : ((l.take k).map f).length = k := by simp; omega
  simp only [FV]
  rw [List.set_append_right _ _ (by omega), hk, Nat.sub_self, show l.length - k = (l.length - (k + 1)) + 1 by omega, List.replicate_succ, List.set_cons_zero, List.take_succ_eq_append_getElem h, List.map_append, List.append_assoc]
  rfl
set_option maxHeartbeats 8000000 in
theorem ygrow_no (A : Option Addr) (cap : Nat) (l : List Rc) (d : Int) (w : World) (hl : RIn w A cap l) (hn : ¬ (RegP l ∧ DistP d)) :
    Calls Try.prog 17 #[.slice A l.length cap, .int .i64 d] w (ResIs (growM l d) w) := by
  rw [show growM l d = ([], 1) from if_neg hn]
  by_cases hr : RegP l
  · have HR := Lib.hid (gright_yes A cap l w hl.row hl.len hl.room hl.room2 hr)
    have HD := Lib.hid (fun w' => yisd_any d w')
    rw [show decide (DistP d) = false from decide_eq_false (fun h => hn ⟨hr, h⟩)] at HD
    clear hr hl hn
    go_enter Try.func17, Try.ntmps17
    go_wp2_with fail
    refine HR.out.mono ?_
    rintro e1 w1 ⟨rfl, hb1⟩
    have HB1 := Lib.hid hb1; clear hb1
    go_wp2_with fail
    refine (HD.out _).mono ?_
    rintro e2 w2 ⟨rfl, hb2⟩
    have HB2 := Lib.hid (HB1.out.trans (hb2.mono HB1.out.size)); clear hb2 HB1
    go_wp2_with fail
    go_ret2
    exact ⟨_, rfl, World.ownsRow_nil _ _ _ _, HB2.out⟩
  · have HR := Lib.hid (gright_no A cap l w hl.row hl.len hl.room hl.room2 hr)
    clear hr hl hn
    go_enter Try.func17, Try.ntmps17
    go_wp2_with fail
    refine HR.out.mono ?_
    rintro e1 w1 ⟨rfl, hb1⟩
    have HB1 := Lib.hid hb1; clear hb1
    go_wp2_with fail
    go_ret2
    exact ⟨_, rfl, World.ownsRow_nil _ _ _ _, HB1.out⟩
set_option maxHeartbeats 16000000 in
theorem ygrow_yes (A : Option Addr) (cap : Nat) (l : List Rc) (d : Int) (w : World) (hl : RIn w A cap l) (hr : RegP l) (hd : DistP d) :
    Calls Try.prog 17 #[.slice A l.length cap, .int .i64 d] w (ResIs (growM l d) w) := by
  have HL := Lib.hid hl
  have HR := Lib.hid (gright_yes A cap l w hl.row hl.len hl.room hl.room2 hr)
  have HD := Lib.hid (fun w' => yisd_any d w')
  rw [show decide (DistP d) = true from decide_eq_true hd] at HD
  have EQ := Lib.hid (of_grown hr hd)
  have HOK := Lib.hid (form_ok hr.1)
  have HG := Lib.hid (fun (r : Rc) (hro : ROk r) (w' : World) => show Calls Try.prog 53 #[.agg #[.int .i64 r.X0, .int .i64 r.Y0, .int .i64 r.X1, .int .i64 r.Y1], .int .i64 d] w' (RbIs (grownR r d, true) w') from by
    have := tgrow_any r d (by unfold In64; have := hd.1; have := hd.2; omega) w'
    rwa [grow_is hro hd.1] at this)
  have hmk := mkRs l.length hr.2
  have hlen := hr.2
  obtain ⟨Z, hZ⟩ : ∃ Z, Z = (rcells (List.replicate l.length zR)).toArray := ⟨_, rfl⟩
  rw [← hZ] at hmk
  have HZ := Lib.hid hZ; clear hZ
  clear hr hl hd
  go_enter Try.func17, Try.ntmps17
  go_wp2_with fail
  refine HR.out.mono ?_
  rintro e1 w1 ⟨rfl, hb1⟩
  have HB1 := Lib.hid hb1; clear hb1
  go_wp2_with fail
  refine (HD.out _).mono ?_
  rintro e2 w5 ⟨rfl, hb2⟩
  have HB5 := Lib.hid (HB1.out.trans (hb2.mono HB1.out.size)); clear hb2 HB1
  have S0 : Hid (ShAt w.heap.size w5.heap.size l.length (FV (grownR · d) l 0) w (w5.alloc (.cells Z 41))) := Lib.hid (by
    have h := World.ownsRow_lit w5 Z l.length HB5.out.size (by unfold maxLen; omega) (e := 41) (size := 4) (by rw [HZ.out]; simp [rcells_len])
    refine ⟨?_, HB5.out.alloc HB5.out.size _, ?_⟩
    · rw [FV_zero]
      have hz : Z.toList = rcells (List.replicate l.length zR) := by rw [HZ.out]
      rw [hz] at h
      simpa using h
    · have := HB5.out.size; simp at this ⊢; omega)
  go_wp2_with fail
  go_loopw [7, 22] (fun _ i wr => ∃ k : Nat, k ≤ l.length ∧ i = .int .i64 k ∧ Hid (ShAt w.heap.size w5.heap.size l.length (FV (grownR · d) l k) w wr)) (fun _ i _ => l.length - (intOf i).toNat)
  case atStart => exact ⟨0, Nat.zero_le _, rfl, S0⟩
  case round =>
    clear S0 hmk
    generalize w5.heap.size = g at *
    obtain ⟨k, hk, rfl, HS⟩ := hrel
    by_cases hlt : k < l.length
    · obtain ⟨b1, o1, rfl, hb1, hv1⟩ := HL.out.row (by omega)
      obtain ⟨x0, x1, x2, x3⟩ := hv1 k hlt
      have wc := fun o => HS.out.2.1.cell (p := ⟨b1, o, none⟩) hb1
      have x0 := (wc _).trans x0; have x1 := (wc _).trans x1; have x2 := (wc _).trans x2; have x3 := (wc _).trans x3
      have hbw : b1 < wr.heap.size := Nat.lt_of_lt_of_le hb1 HS.out.2.1.size
      clear hv1 wc
      have i0 : (0 : Int) ≤ (k : Int) := by omega
      have i1 : (k : Int) < (l.length : Int) := by omega
      have NEXT := Lib.hid (FV_next (grownR · d) l k hlt)
      have HML := Lib.hid (FV_len (grownR · d) l k (by omega))
      obtain ⟨u, hu⟩ : ∃ u, u = l[k] := ⟨_, rfl⟩
      have HGU := Lib.hid (fun w' => HG.out u (by rw [hu]; exact HOK.out _ (List.getElem_mem hlt)) w')
      rw [← hu] at x0 x1 x2 x3 NEXT
      clear hu
      have HS1 : Hid (ShAt w.heap.size g l.length (FV (grownR · d) l k) w (wr.alloc (.cells #[.int .i64 u.X0, .int .i64 u.Y0, .int .i64 u.X1, .int .i64 u.Y1] 41))) := Lib.hid (HS.out.go ((Below.refl _ _).alloc (Nat.le_refl _) _) HS.out.2.1.size)
      clear HS
      go_wp2_with fail
      refine (HGU.out _).mono ?_
      rintro e6 w6 ⟨rfl, hb6⟩
      have HS2 := Lib.hid (HS1.out.go hb6 HS1.out.2.1.size)
      clear hb6 HS1 x0 x1 x2 x3 hbw
      obtain ⟨r0, r1, r2, r3⟩ := rcells_at (FV (grownR · d) l k) k (by have := HML.out; omega)
      have own := HS2.out.1
      have y0 := (own.cellAt (k * 4) (by omega)).trans r0
      have y1 := (own.cellAt (k * 4 + 1) (by omega)).trans r1
      have y2 := (own.cellAt (k * 4 + 2) (by omega)).trans r2
      have y3 := (own.cellAt (k * 4 + 3) (by omega)).trans r3
      have f0 := own.frozenAt (k * 4); have f1 := own.frozenAt (k * 4 + 1); have f2 := own.frozenAt (k * 4 + 2); have f3 := own.frozenAt (k * 4 + 3)
      have gl : g < w6.heap.size := (own.lt g rfl).2
      clear r0 r1 r2 r3 own
      generalize ((FV (grownR · d) l k)[k]'(by have := HML.out; omega)) = u9 at *
      have PUT := Lib.hid (HS2.out.put k (by have := HML.out; omega) (grownR u d))
      rw [NEXT.out] at PUT
      clear HS2 HGU
      generalize grownR u d = z at *
      go_wp2_with fail
      go_roundw
      case rel => exact ⟨k + 1, by omega, by go_num, PUT⟩
      case measure => simp [intOf]; omega
    · obtain rfl : k = l.length := by omega
      have FIN := Lib.hid (FV_all (grownR · d) l)
      rw [FIN.out] at HS
      have hll : (grownL l d).length = l.length := by simp [grownL]
      have hown : wr.ownsRow w.heap.size 41 4 (.slice (some ⟨g, 0, none⟩) l.length l.length) (grownL l d).length (rcells (grownL l d)) := by rw [hll]; exact HS.out.1
      obtain ⟨A2, c2, e2, hrow, hc1, hc2, _, _⟩ := own_rects hown
      have eA : A2 = some ⟨g, 0, none⟩ := by injection e2 with e2 _ _; exact e2.symm
      subst eA
      have HOF := Lib.hid (gof_any (some ⟨g, 0, none⟩) l.length (grownL l d) wr hrow (by omega))
      rw [EQ.out, hll] at HOF
      have HBL := Lib.hid HS.out.2.1
      clear e2 hrow hc1 hc2 hown hll HS
      go_wp2_with fail
      refine HOF.out.mono ?_
      rintro e7 w7 hres
      obtain ⟨A3, c3, rfl, h3, h4⟩ := hres.parts
      have FR : Hid (ResIs (growM l d) w (.returned (.tuple #[.slice A3 (growM l d).1.length c3, .int .i64 (growM l d).2])) w7) := Lib.hid ⟨_, rfl, own_base h3 HBL.out.size, HBL.out.trans (h4.mono HBL.out.size)⟩
      clear hres h3 h4 HOF
      generalize (growM l d).1.length = n2 at *
      generalize (growM l d).2 = er2 at *
      go_wp2_with fail
      go_ret2
      exact FR.out
theorem ygrow_any (A : Option Addr) (cap : Nat) (l : List Rc) (d : Int) (w : World) (hl : RIn w A cap l) : Calls Try.prog 17 #[.slice A l.length cap, .int .i64 d] w (ResIs (growM l d) w) := by
  by_cases h : RegP l ∧ DistP d
  · exact ygrow_yes A cap l d w hl h.1 h.2
  · exact ygrow_no A cap l d w hl h
end Go.Proofs.Ytcnojedijimheaa
