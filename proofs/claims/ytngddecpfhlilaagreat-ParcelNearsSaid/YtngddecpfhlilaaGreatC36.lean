/-
  Contracts of layer 13 (26): what Join stands on.
  Contracts of layer 13 (23): Near.
  Contracts of layer 13 (29): the reference's number, has, taken, Few; the law's one, in.
-/
import Derived.Test.YtngddecpfhlilaaGreatC34
import Derived.Test.YtngddecpfhlilaaGreatC12
import Derived.Test.YtngddecpfhlilaaGreatC33
import Derived.Test.YtngddecpfhlilaaGreatC32
import Derived.BigQuiet
set_option linter.unusedVariables false
set_option maxRecDepth 100000
namespace Go.Proofs.YtngddecpfhlilaaGreat
open Go.RowKit
structure JW (v : Value) (T : List LtV) (w wr : World) : Prop where
 own : wr.ownsRow w.heap.size 40 4 v T.length (tvcells T)
 inn : ∀ x ∈ T, LtI w x.t x.p
 bel : Below w.heap.size w wr
theorem JW.go {v : Value} {T : List LtV} {w wr w' : World} (h : JW v T w wr) (hb : Below wr.heap.size wr w') : JW v T w w' := ⟨own_go h.own hb, h.inn, h.bel.trans (hb.mono h.bel.size)⟩
theorem JW.start {w wr : World} (h : Below w.heap.size w wr) : JW (.slice none 0 0) [] w wr := ⟨World.ownsRow_nil _ _ _ _, (fun t ht => nomatch ht), h⟩
theorem JW.app {v v' : Value} {T : List LtV} {x : LtV} {w wr w' : World} (h : JW v T w wr) (hx : LtI w x.t x.p) (ho : w'.ownsRow w.heap.size 40 4 v' (T.length + 1) (tvcells T ++ tvc x)) (hg : wr.grownBy w' v.ownBlock) : JW v' (T ++ [x]) w w' := by
 refine ⟨?_, fun u hu => ?_, h.bel.grown hg h.bel.size (fun k hk => (h.own.lt k hk).1)⟩
 ·rw [List.length_append, tvcells_append]
  rw [show tvcells [x] = tvc x by simp [tvcells]]
  exact ho
 ·rcases List.mem_append.1 hu with hu | hu
  ·exact h.inn u hu
  ·rw [List.mem_singleton] at hu; subst hu; exact hx
theorem JW.cells {v : Value} {L : List LtV} {w wr : World} (h : JW v L w wr) : ∃ A cap, v = .slice A L.length cap ∧ L.length ≤ cap ∧ cap ≤ 9223372036854775807 ∧ (0 < L.length → ∃ g, A = some ⟨g, 0, none⟩ ∧ w.heap.size ≤ g ∧ g < wr.heap.size ∧ ∀ j (hj : j < L.length), LtC wr g (0 + j * 4) L[j].t L[j].p) := by
 have hh := h.own
 have hlt := hh.lt
 obtain ⟨h1, h2⟩ := h.own
 rcases h2 with ⟨rfl, h3⟩ | ⟨g, cap, cur, rfl, hB, hg, h4⟩
 ·exact ⟨none, 0, by rw [h3], by omega, by omega, fun h => by omega⟩
 ·refine ⟨_, cap, rfl, h4.1, ?_, fun _ => ⟨g, rfl, hB, (hlt g rfl).2, fun j hj => ?_⟩⟩
  ·have := h4.2.1; unfold maxLen at this; omega
  ·have c := fun i (hi : i < L.length * 4) => World.ownsRow.cellAt hh i hi
   obtain ⟨e0, e1, e2, e3⟩ := tvcells_at L j hj
   rw [Nat.zero_add]
   exact ⟨(c _ (by omega)).trans e0, (c _ (by omega)).trans e1, (c _ (by omega)).trans e2, (c _ (by omega)).trans e3⟩
theorem JW.lin {v : Value} {L : List LtV} {w wr : World} (h : JW v L w wr) (hl : L.length ≤ 1099511627776) : ∃ A cap, v = .slice A (tvS L).length cap ∧ LtIn wr A cap (tvS L) := by
 obtain ⟨A, cap, rfl, h1, h2, h3⟩ := h.cells
 refine ⟨A, cap, by rw [tvS_len], fun h0 => ?_, by rw [tvS_len]; exact hl, by rw [tvS_len]; exact h1, h2⟩
 rw [tvS_len] at h0
 obtain ⟨g, rfl, _, hg, hc⟩ := h3 h0
 refine ⟨g, 0, rfl, hg, fun j hj => ?_⟩
 rw [tvS_len] at hj
 have e : (tvS L)[j]'(by rw [tvS_len]; exact hj) = L[j].t := by simp [tvS]
 rw [e]
 exact ⟨L[j].p, hc j hj, (h.inn _ (List.getElem_mem hj)).below h.bel⟩
theorem findAll_snoc {L : List Lt} : ∀ {o : List Int} {ts : List Lt} {k : Int} {t : Lt}, findAll L o = some ts → findL L k = some t → findAll L (o ++ [k]) = some (ts ++ [t])
 | [], ts, k, t, h1, h2 => by
  have : ts = [] := by simpa [findAll] using h1.symm
  subst this
  simp [findAll, h2]
 | a :: o, ts, k, t, h1, h2 => by
  unfold findAll at h1
  cases ha : findL L a with
  | none => rw [ha] at h1; simp at h1
  | some u =>
   rw [ha] at h1
   cases ho : findAll L o with
   | none => rw [ho] at h1; simp at h1
   | some us =>
    rw [ho] at h1
    have e : ts = u :: us := by simpa using h1.symm
    subst e
    have := findAll_snoc ho h2
    show findAll L (a :: (o ++ [k])) = _
    unfold findAll
    rw [ha, this]
    rfl
theorem findAll_none {L : List Lt} : ∀ {o : List Int} {k : Int}, k ∈ o → findL L k = none → findAll L o = none
 | a :: o, k, hk, h => by
  unfold findAll
  rcases List.mem_cons.1 hk with e | hk
  ·rw [← e, h]
  ·cases findL L a with
   | none => rfl
   | some u => simp only; rw [findAll_none hk h]
theorem findAll_ids {L : List Lt} : ∀ {o : List Int} {ts : List Lt}, findAll L o = some ts → ts.map (fun t => t.id) = o ∧ ∀ t ∈ ts, t ∈ L
 | [], ts, h => by
  have : ts = [] := by simpa [findAll] using h.symm
  subst this
  exact ⟨rfl, (fun t ht => nomatch ht)⟩
 | a :: o, ts, h => by
  unfold findAll at h
  cases ha : findL L a with
  | none => rw [ha] at h; simp at h
  | some u =>
   rw [ha] at h
   cases ho : findAll L o with
   | none => rw [ho] at h; simp at h
   | some us =>
    rw [ho] at h
    have e : ts = u :: us := by simpa using h.symm
    subst e
    obtain ⟨h1, h2⟩ := findAll_ids ho
    obtain ⟨h3, h4⟩ := find_mem ha
    refine ⟨by rw [List.map_cons, h1, h4], fun t ht => ?_⟩
    rcases List.mem_cons.1 ht with e | ht
    ·rw [e]; exact h3
    ·exact h2 t ht
theorem asc_map {ts : List Lt} : Asc (ts.map fun t => t.id) → AscL ts := by
 induction ts with
 | nil => intro _; trivial
 | cons t ts ih =>
  intro h
  rw [List.map_cons] at h
  exact ⟨fun u hu => h.lt _ (List.mem_map.2 ⟨u, hu, rfl⟩), ih h.tail⟩
theorem findAll_sub {L ts : List Lt} {o : List Int} (hL : AscL L) (ho : Asc o) (h : findAll L o = some ts) : ts = L.filter fun t => decide (t.id ∈ o) := by
 obtain ⟨h1, h2⟩ := findAll_ids h
 refine ascL_eq (asc_map (by rw [h1]; exact ho)) (asc_filter _ hL) (fun t => ⟨fun ht => ?_, fun ht => ?_⟩)
 ·refine List.mem_filter.2 ⟨h2 t ht, ?_⟩
  rw [← h1]
  simp only [decide_eq_true_eq]
  exact List.mem_map.2 ⟨t, ht, rfl⟩
 ·obtain ⟨h3, h4⟩ := List.mem_filter.1 ht
  rw [← h1] at h4
  obtain ⟨u, hu, e⟩ := List.mem_map.1 (of_decide_eq_true h4)
  have := hL.one (h2 u hu) h3 e
  rw [← this]; exact hu
theorem cells_apt {L ts : List Lt} {o : List Int} (hl : LandP L) (ho : Asc o) (h : findAll L o = some ts) : (cellsR ts).Pairwise Apt ∧ (∀ t ∈ ts, lotB t = true) ∧ (∀ r ∈ cellsR ts, ROk r) := by
 have hf := findAll_sub hl.asc ho h
 have hm : ∀ t ∈ ts, t ∈ L := (findAll_ids h).2
 refine ⟨?_, fun t ht => hl.lot t (hm t ht), fun r hr => ?_⟩
 ·refine List.Pairwise.sublist ?_ hl.ap
  rw [hf]
  unfold cellsR
  have key : ∀ M : List Lt, ((M.filter fun t => decide (t.id ∈ o)).flatMap fun t => t.ar).Sublist (M.flatMap fun t => t.ar) := by
   intro M
   induction M with
   | nil => exact List.Sublist.refl _
   | cons t M ih =>
    rw [List.filter_cons, List.flatMap_cons]
    split
    ·rw [List.flatMap_cons]; exact List.Sublist.append (List.Sublist.refl _) ih
    ·exact ih.trans (List.sublist_append_right _ _)
  exact key L
 ·obtain ⟨t, ht, h2⟩ := List.mem_flatMap.1 hr
  exact form_ok (lotB_one (hl.lot t (hm t ht))).1.1 r h2
theorem eg_jo : ∀ args w, (callFunc 83 args).run Tryz.prog w = .ok (.enter 83 args) w := enters_of Tryz.func83 (by kernel_rfl) rfl
theorem joinC_any (t : Lt) (p : LtP) (n : Int) (pb : Nat) (w : World) (hp : w.cell? ⟨pb, 0, none⟩ = some (.int .i64 n)) (hpl : pb < w.heap.size) :
  Calls Tryz.prog 83 #[lvl t p, .pointer (some ⟨pb, 0, none⟩)] w (BlIs (decide (t.ow ≠ n)) w) := by
 obtain ⟨id, ow, ar, fr⟩ := t
 obtain ⟨PA, PC, PB, PD⟩ := p
 unfold lvl
 simp only
 by_cases c : ow = n
 ·have e1 : decide (ow ≠ n) = false := by simpa using c
  rw [e1]
  have e2 : (ow != n) = false := by simpa using c
  clear e1 c
  go_enter Tryz.func83, Tryz.ntmps83
  go_wp2_with fail
  go_ret
  exact ⟨by first | rfl | simp, by (repeat' first | exact Below.refl _ _ | assumption | (apply below_drewN) | (refine Below.setCell ?_ (by (try simp); (try omega)) _) | (refine Below.alloc ?_ (by (try simp); (try omega)) _) | (refine Below.trans ?_ (Below.mono (Hid.out (by assumption)) (by (try simp); (try omega)))))⟩
 ·have e1 : decide (ow ≠ n) = true := by simpa using c
  rw [e1]
  have e2 : (ow != n) = true := by simpa using c
  clear e1 c
  go_enter Tryz.func83, Tryz.ntmps83
  go_wp2_with fail
  go_ret
  exact ⟨by first | rfl | simp, by (repeat' first | exact Below.refl _ _ | assumption | (apply below_drewN) | (refine Below.setCell ?_ (by (try simp); (try omega)) _) | (refine Below.alloc ?_ (by (try simp); (try omega)) _) | (refine Below.trans ?_ (Below.mono (Hid.out (by assumption)) (by (try simp); (try omega)))))⟩
end Go.Proofs.YtngddecpfhlilaaGreat
namespace Go.Proofs.YtngddecpfhlilaaGreat
open Go.RowKit
noncomputable def nrB (t : Lt) (x d : Int) (u : Lt) : Bool := (gapM t.ar u.ar).2 && decide ((gapM t.ar u.ar).1 ≤ d) && decide (u.id ≠ x)
noncomputable def nrL (t : Lt) (x d : Int) (L : List Lt) : List Int := (L.filter (nrB t x d)).map fun u => u.id
theorem nrL_next (t : Lt) (x d : Int) (L : List Lt) (k : Nat) (h : k < L.length) : nrL t x d (L.take (k + 1)) = nrL t x d (L.take k) ++ (if nrB t x d L[k] = true then [L[k].id] else []) := by
 rw [← List.take_append_getElem h]
 unfold nrL
 rw [List.filter_append, List.map_append]
 congr 1
 by_cases c : nrB t x d L[k] = true <;> simp [c]
def NmR (S : List Int) (w : World) (e : Ending) (w' : World) : Prop := ∃ A c, e = .returned (.slice A S.length c) ∧ NIn w' A c S ∧ Below w.heap.size w w'
structure NrW (v : Value) (F : List Int) (g : Nat) (t : Lt) (p : LtP) (w wr : World) : Prop where
 own : wr.ownsRow w.heap.size 3 1 v F.length (icells F)
 at_ : LtAt wr g t p
 bel : Below w.heap.size w wr
theorem NrW.go {v : Value} {F : List Int} {g : Nat} {t : Lt} {p : LtP} {w wr w' : World} (h : NrW v F g t p w wr) (hb : Below wr.heap.size wr w') : NrW v F g t p w w' := ⟨own_go h.own hb, h.at_.below hb, h.bel.trans (hb.mono h.bel.size)⟩
theorem NrW.app {v v' : Value} {F F' : List Int} {g : Nat} {t : Lt} {p : LtP} {w wr w' : World} (h : NrW v F g t p w wr) (ho : w'.ownsRow w.heap.size 3 1 v' F'.length (icells F')) (hg : wr.grownBy w' v.ownBlock) : NrW v' F' g t p w w' :=
 ⟨ho, (hg.block g h.at_.lt (blk_ap h.at_ h.own (by decide))).trans h.at_, h.bel.grown hg h.bel.size (fun k hk => (h.own.lt k hk).1)⟩
set_option maxHeartbeats 16000000 in
theorem near13_any (A : Option Addr) (cap : Nat) (L : List Lt) (x d : Int) (w : World) (h : LtIn w A cap L) :
  Calls Tryz.prog 20 #[.slice A L.length cap, .int .i64 x, .int .i64 d] w (NmR (sortS (nrL ((findL L x).getD lt0) x d L)) w) := by
 obtain ⟨i0, hi9, hz0, hz1, hz2⟩ := info_parts infoInt
 have HFD := Lib.hid (find13_any A cap L x w h)
 have HL := Lib.hid h; clear h
 have hlen := HL.out.len
 unfold FdR at HFD
 generalize (findL L x).getD lt0 = t at *
 have HNX := Lib.hid (nrL_next t x d L)
 unfold nrB at HNX
 have HNL : Hid (∀ k, k ≤ L.length → (nrL t x d (L.take k)).length ≤ k) := Lib.hid (fun k hk => by
  unfold nrL
  rw [List.length_map]
  refine Nat.le_trans (List.length_filter_le _ _) ?_
  rw [List.length_take]; omega)
 have HFIN : Hid (∀ k, k = L.length → nrL t x d (L.take k) = nrL t x d L) := Lib.hid (fun k hk => by rw [hk, List.take_length])
 obtain ⟨S, hS⟩ : ∃ S, S = nrL t x d L := ⟨_, rfl⟩
 rw [← hS] at HFIN ⊢
 clear hS
 obtain ⟨T, hT⟩ : ∃ T, T = fun k => nrL t x d (L.take k) := ⟨_, rfl⟩
 have HT0 : Hid (T 0 = []) := Lib.hid (by rw [hT]; rfl)
 have hTk : ∀ k, nrL t x d (L.take k) = T k := fun k => by rw [hT]
 simp only [hTk] at HNX HNL HFIN
 clear hT hTk
 go_enter Tryz.func20, Tryz.ntmps20
 go_wp2_with fail
 refine HFD.out.mono ?_
 rintro e w1 ⟨p, rfl, hi, hb1⟩
 have HI := Lib.hid hi
 have HNW : Hid (NrW (.slice none 0 0) [] w1.heap.size t p w1 (w1.alloc (.cells #[.int .i64 t.id, .int .i64 t.ow, .slice p.A t.ar.length p.c, .slice p.B t.fr.length p.d] 40))) := Lib.hid ⟨World.ownsRow_nil _ _ _ _, LtAt.new w1 t p _ rfl rfl rfl, (Below.refl _ _).alloc (Nat.le_refl _) _⟩
 have HB1 := Lib.hid hb1
 clear hi hb1 HFD
 have HGP := Lib.hid (fun (u : Lt) (q : LtP) w' (hb : Below w1.heap.size w1 w') (hu : RIn w' q.A q.c u.ar) => ygap_any p.A p.c q.A q.c t.ar u.ar w' (HI.out.ar.below hb) hu)
 have HCC : Hid (∀ w' g, LtAt w' g t p → w'.cell? ⟨g, 2, none⟩ = some (.slice p.A t.ar.length p.c) ∧ g < w'.heap.size) := Lib.hid (fun w' g h => by
  obtain ⟨c0, c1, c2, c3⟩ := h.c
  simp only [Nat.zero_add] at c1 c2 c3
  exact ⟨c2, h.lt⟩)
 obtain ⟨g, hg⟩ : ∃ g, g = w1.heap.size := ⟨_, rfl⟩
 have HG := Lib.hid hg
 obtain ⟨tid, tow, tar, tfr⟩ := t
 obtain ⟨PA, PC, PB, PD⟩ := p
 unfold lvl
 simp only at HGP HCC HNX HNW ⊢
 go_wp2_with fail
 rw [← hg] at HNW ⊢
 have HW1 : Hid (w1.heap.size ≤ (w1.alloc (.cells #[.int .i64 tid, .int .i64 tow, .slice PA tar.length PC, .slice PB tfr.length PD] 40)).heap.size ∧ Below w1.heap.size w1 (w1.alloc (.cells #[.int .i64 tid, .int .i64 tow, .slice PA tar.length PC, .slice PB tfr.length PD] 40))) := Lib.hid ⟨by simp, (Below.refl _ _).alloc (Nat.le_refl _) _⟩
 generalize w1.alloc (.cells #[.int .i64 tid, .int .i64 tow, .slice PA tar.length PC, .slice PB tfr.length PD] 40) = w0 at *
 clear hg
 go_loopw [9, 22] (fun v i wr => ∃ (k : Nat) (a : Value), k ≤ L.length ∧ i = .int .i64 k ∧ a = v ∧ Hid (NrW a (T k) g ⟨tid, tow, tar, tfr⟩ ⟨PA, PC, PB, PD⟩ w1 wr)) (fun _ i _ => L.length - (intOf i).toNat)
 case atStart => exact ⟨0, _, Nat.zero_le _, rfl, rfl, Lib.hid (by rw [HT0.out]; exact HNW.out)⟩
 case round =>
  clear HNW HW1
  obtain ⟨k, v, hk, rfl, rfl, HW⟩ := hrel
  by_cases hlt : k < L.length
  ·obtain ⟨b, o, q, rfl, hb, hc, hu⟩ := HL.out.at_ hlt
   have HWW := Lib.hid (HB1.out.trans (HW.out.bel.mono HB1.out.size))
   obtain ⟨x0, x1, x2, x3⟩ := hc.below hb HWW.out
   obtain ⟨y2, yl⟩ := HCC.out wr g HW.out.at_
   have n0 : (0 : Int) ≤ (k : Int) := by omega
   have n1 : (k : Int) < (L.length : Int) := by omega
   have HU := Lib.hid (fun w' (hb : Below w.heap.size w w') => hu.ar.below hb)
   have HTK := Lib.hid (HNX.out k hlt)
   have hFl := HNL.out k hk
   clear hc hu HNX
   generalize L[k] = u at *
   obtain ⟨uid, uow, uar, ufr⟩ := u
   obtain ⟨QA, QC, QB, QD⟩ := q
   simp only at x0 x1 x2 x3 HU HTK
   obtain ⟨F, hF⟩ : ∃ F, F = T k := ⟨_, rfl⟩
   rw [← hF] at HW HTK hFl
   clear hF
   have hba : Below wr.heap.size wr (wr.alloc (.cells #[.int .i64 uid, .int .i64 uow, .slice QA uar.length QC, .slice QB ufr.length QD] 40)) := (Below.refl _ _).alloc (Nat.le_refl _) _
   have HWA := Lib.hid (HW.out.go hba)
   have HWWA := Lib.hid (HWW.out.trans (hba.mono HWW.out.size))
   have HAT := Lib.hid (heap_alloc_new wr (.cells #[.int .i64 uid, .int .i64 uow, .slice QA uar.length QC, .slice QB ufr.length QD] 40))
   have hws : wr.heap.size < (wr.alloc (.cells #[.int .i64 uid, .int .i64 uow, .slice QA uar.length QC, .slice QB ufr.length QD] 40)).heap.size := by rw [World.size_alloc]; omega
   clear hba HWW
   go_wp2_with fail
   refine (HGP.out ⟨uid, uow, uar, ufr⟩ ⟨QA, QC, QB, QD⟩ _ HWA.out.bel (HU.out _ HWWA.out)).mono ?_
   rintro e w5 ⟨rfl, hb5⟩
   have HW5 := Lib.hid (HWA.out.go hb5)
   have z0 : w5.cell? ⟨wr.heap.size, 0, none⟩ = some (.int .i64 uid) := (hb5.cell (p := ⟨wr.heap.size, 0, none⟩) hws).trans (by rw [Lib.cell_of_heap HAT.out]; rfl)
   have zl : wr.heap.size < w5.heap.size := Nat.lt_of_lt_of_le hws hb5.size
   clear hb5 hws HAT HWA HWWA HU x0 x1 x2 x3 y2 yl
   generalize gapM tar uar = gm at *
   obtain ⟨gp, gb⟩ := gm
   simp only at HTK
   cases gb
   ·have HT2 : Hid (T (k + 1) = F) := Lib.hid (by rw [HTK.out]; simp)
    clear HTK
    go_wp2_with fail
    go_roundw
    case rel => exact ⟨k + 1, v, by omega, by go_num, rfl, Lib.hid (by rw [HT2.out]; exact HW5.out)⟩
    case measure => simp [intOf]; omega
   ·by_cases c1 : gp ≤ d
    ·have e1 : decide (gp ≤ d) = true := decide_eq_true c1
     by_cases c2 : uid = x
     ·have HT2 : Hid (T (k + 1) = F) := Lib.hid (by rw [HTK.out]; simp [c2])
      have e2 : (uid != x) = false := by simpa using c2
      clear HTK
      have C2 := Lib.hid c2; clear c2
      go_wp2_with fail
      go_roundw
      case rel => exact ⟨k + 1, v, by omega, by go_num, rfl, Lib.hid (by rw [HT2.out]; exact HW5.out)⟩
      case measure => simp [intOf]; omega
     ·have HT2 : Hid (T (k + 1) = F ++ [uid]) := Lib.hid (by rw [HTK.out]; simp [c1, c2])
      have e2 : (uid != x) = true := by simpa using c2
      have HW6 := Lib.hid (HW5.out.go ((Below.refl _ _).alloc (Nat.le_refl _) (.cells #[.int .i64 uid] 3)))
      clear HTK
      go_wp2_with (at_builtin; refine wpList_append_own _ rfl _ _ 31 rfl w1.heap.size 3 i0 (.int .i64 0) 1 8 Tryz.underlying31 hi9 hz0 hz1 hz2 rfl (by decide) _ _ _ rfl HW6.out.own ⟨w5.heap.size, 0, none⟩ 1 1 [.int .i64 uid] rfl rfl ?c1 ?c2 ?c3 ?c4 ?c5 ?_)
      case c1 => exact World.news_of_block (cs := #[.int .i64 uid]) (t := 3) (fr := (0, 0)) (heap_alloc_new w5 _)
      case c2 => intro z hz; simp only [List.mem_cons, List.not_mem_nil, or_false] at hz; rcases hz with rfl; rfl
      case c3 => unfold maxLen; omega
      case c4 => omega
      case c5 => exact HW6.out.bel.size
      intro v7 w7 hown7 hgr7 _
      have HW7 : Hid (NrW v7 (F ++ [uid]) g ⟨tid, tow, tar, tfr⟩ ⟨PA, PC, PB, PD⟩ w1 w7) := Lib.hid (HW6.out.app (by rw [List.length_append, show icells (F ++ [uid]) = icells F ++ [.int .i64 uid] by simp [icells]]; exact hown7) hgr7)
      clear hown7 hgr7
      go_wp2_with fail
      go_roundw
      case rel => exact ⟨k + 1, v7, by omega, by go_num, rfl, Lib.hid (by rw [HT2.out]; exact HW7.out)⟩
      case measure => simp [intOf]; omega
    ·have e1 : decide (gp ≤ d) = false := decide_eq_false c1
     have HT2 : Hid (T (k + 1) = F) := Lib.hid (by rw [HTK.out]; simp [c1])
     clear HTK
     go_wp2_with fail
     go_roundw
     case rel => exact ⟨k + 1, v, by omega, by go_num, rfl, Lib.hid (by rw [HT2.out]; exact HW5.out)⟩
     case measure => simp [intOf]; omega
  ·obtain rfl : k = L.length := by omega
   have hFl := HNL.out _ hk
   rw [HFIN.out _ rfl] at HW hFl
   obtain ⟨A9, c9, rfl, _⟩ := own_parts13 HW.out.own
   have HAS := Lib.hid (asc_any A9 c9 S wr (own_nin HW.out.own (by omega)))
   have HB9 := Lib.hid (HB1.out.trans (HW.out.bel.mono HB1.out.size))
   clear HW HNX HNL HFIN
   go_wp2_with fail
   refine HAS.out.mono ?_
   rintro e w9 ⟨A8, c8, rfl, hn, _, hb⟩
   have HF : Hid (NmR (sortS S) w (.returned (.slice A8 (sortS S).length c8)) w9) := Lib.hid ⟨A8, c8, rfl, hn, HB9.out.trans (hb.mono HB9.out.size)⟩
   clear hn hb HAS
   go_wp2_with fail
   go_ret
   exact HF.out
end Go.Proofs.YtngddecpfhlilaaGreat
namespace Go.Proofs.YtngddecpfhlilaaGreat
open Go.RowKit
theorem mnum_any (n : Int) (w : World) : Calls Tryz.prog 101 #[.int .i64 n] w (BlIs (nB n) w) := by
 unfold nB
 by_cases c : 1 ≤ n
 ·have hd := decide_eq_true c
  rw [hd]
  go_enter Tryz.func101, Tryz.ntmps101
  go_wp2
  go_ret
  exact ⟨by simp, Below.refl _ _⟩
 ·have hd := decide_eq_false c
  rw [hd]
  go_enter Tryz.func101, Tryz.ntmps101
  go_wp2
  go_ret
  exact ⟨by simp, Below.refl _ _⟩
theorem has_at {l : List Int} {k : Nat} {n : Int} (hk : k < l.length) (h : l[k] = n) : decide (n ∈ l) = true := by
 rw [decide_eq_true_iff, ← h]; exact List.getElem_mem hk
theorem has_no {l : List Int} {n : Int} (h : ∀ j (hj : j < l.length), l[j] ≠ n) : decide (n ∈ l) = false := by
 rw [decide_eq_false_iff_not]
 intro c
 obtain ⟨j, hj, e⟩ := List.getElem_of_mem c
 exact h j hj e
set_option maxHeartbeats 8000000 in
theorem mhas_any (A : Option Addr) (cap : Nat) (l : List Int) (n : Int) (w : World) (h : NIn w A cap l) : Calls Tryz.prog 56 #[.slice A l.length cap, .int .i64 n] w (BlIs (decide (n ∈ l)) w) := by
 have HL := Lib.hid h; clear h
 have hlen := HL.out.len
 have HYES := Lib.hid (fun k (hk : k < l.length) (c : l[k] = n) => has_at hk c)
 have HNO := Lib.hid (fun (c : ∀ j (hj : j < l.length), l[j] ≠ n) => has_no c)
 generalize decide (n ∈ l) = X at *
 go_enter Tryz.func56, Tryz.ntmps56
 go_wp2_with fail
 go_loopw [5] (fun i wr => ∃ (k : Nat), k ≤ l.length ∧ i = .int .i64 k ∧ Hid (∀ j (hj : j < l.length), j < k → l[j] ≠ n) ∧ Hid (Below w.heap.size w wr)) (fun i _ => l.length - (intOf i).toNat)
 case atStart => exact ⟨0, Nat.zero_le _, rfl, Lib.hid (fun j hj h => by omega), Lib.hid (Below.refl _ _)⟩
 case round =>
  obtain ⟨k, hk, rfl, HN, HB⟩ := hrel
  by_cases hlt : k < l.length
  ·obtain ⟨b, o, rfl, hb, hv⟩ := HL.out.row (by omega)
   have x0 := (HB.out.cell (p := ⟨b, o + k, none⟩) hb).trans (hv k hlt)
   clear hv
   have n0 : (0 : Int) ≤ (k : Int) := by omega
   have n1 : (k : Int) < (l.length : Int) := by omega
   have HY := Lib.hid (HYES.out k hlt)
   have HNX : Hid (l[k] ≠ n → ∀ j (hj : j < l.length), j < k + 1 → l[j] ≠ n) := Lib.hid (fun hne j hj hjk => by
    by_cases e : j = k
    ·subst e; exact hne
    ·exact HN.out j hj (by omega))
   generalize l[k] = u at *
   by_cases c : u = n
   ·have HV := Lib.hid (HY.out c)
    have e0 : (u == n) = true := by simpa using c
    have C := Lib.hid c; clear c
    clear HY HNX
    go_wp2_with fail
    go_ret
    rw [HV.out]; exact ⟨rfl, by (repeat' first | exact Below.refl _ _ | assumption | (apply below_drewN) | (refine Below.setCell ?_ (by (try simp); (try omega)) _) | (refine Below.alloc ?_ (by (try simp); (try omega)) _) | (refine Below.trans ?_ (Below.mono (Hid.out (by assumption)) (by (try simp); (try omega)))))⟩
   ·have HN2 := Lib.hid (HNX.out c)
    have e0 : (u == n) = false := by simpa using c
    clear HY HNX
    go_wp2_with fail
    go_roundw
    case rel => exact ⟨k + 1, by omega, by go_num, HN2, Lib.hid (by (repeat' first | exact Below.refl _ _ | assumption | (apply below_drewN) | (refine Below.setCell ?_ (by (try simp); (try omega)) _) | (refine Below.alloc ?_ (by (try simp); (try omega)) _) | (refine Below.trans ?_ (Below.mono (Hid.out (by assumption)) (by (try simp); (try omega))))))⟩
    case measure => simp [intOf]; omega
  ·obtain rfl : k = l.length := by omega
   have HV := Lib.hid (HNO.out (fun j hj => HN.out j hj hj))
   go_wp2_with fail
   go_ret
   rw [HV.out]; exact ⟨rfl, HB.out⟩
set_option maxHeartbeats 8000000 in
theorem win_any (A : Option Addr) (cap : Nat) (l : List Int) (n : Int) (w : World) (h : NIn w A cap l) : Calls Tryz.prog 29 #[.slice A l.length cap, .int .i64 n] w (BlIs (decide (n ∈ l)) w) := by
 have HL := Lib.hid h; clear h
 have hlen := HL.out.len
 have HYES := Lib.hid (fun k (hk : k < l.length) (c : l[k] = n) => has_at hk c)
 have HNO := Lib.hid (fun (c : ∀ j (hj : j < l.length), l[j] ≠ n) => has_no c)
 generalize decide (n ∈ l) = X at *
 go_enter Tryz.func29, Tryz.ntmps29
 go_wp2_with fail
 go_loopw [5] (fun i wr => ∃ (k : Nat), k ≤ l.length ∧ i = .int .i64 k ∧ Hid (∀ j (hj : j < l.length), j < k → l[j] ≠ n) ∧ Hid (Below w.heap.size w wr)) (fun i _ => l.length - (intOf i).toNat)
 case atStart => exact ⟨0, Nat.zero_le _, rfl, Lib.hid (fun j hj h => by omega), Lib.hid (Below.refl _ _)⟩
 case round =>
  obtain ⟨k, hk, rfl, HN, HB⟩ := hrel
  by_cases hlt : k < l.length
  ·obtain ⟨b, o, rfl, hb, hv⟩ := HL.out.row (by omega)
   have x0 := (HB.out.cell (p := ⟨b, o + k, none⟩) hb).trans (hv k hlt)
   clear hv
   have n0 : (0 : Int) ≤ (k : Int) := by omega
   have n1 : (k : Int) < (l.length : Int) := by omega
   have HY := Lib.hid (HYES.out k hlt)
   have HNX : Hid (l[k] ≠ n → ∀ j (hj : j < l.length), j < k + 1 → l[j] ≠ n) := Lib.hid (fun hne j hj hjk => by
    by_cases e : j = k
    ·subst e; exact hne
    ·exact HN.out j hj (by omega))
   generalize l[k] = u at *
   by_cases c : u = n
   ·have HV := Lib.hid (HY.out c)
    have e0 : (u == n) = true := by simpa using c
    have C := Lib.hid c; clear c
    clear HY HNX
    go_wp2_with fail
    go_ret
    rw [HV.out]; exact ⟨rfl, by (repeat' first | exact Below.refl _ _ | assumption | (apply below_drewN) | (refine Below.setCell ?_ (by (try simp); (try omega)) _) | (refine Below.alloc ?_ (by (try simp); (try omega)) _) | (refine Below.trans ?_ (Below.mono (Hid.out (by assumption)) (by (try simp); (try omega)))))⟩
   ·have HN2 := Lib.hid (HNX.out c)
    have e0 : (u == n) = false := by simpa using c
    clear HY HNX
    go_wp2_with fail
    go_roundw
    case rel => exact ⟨k + 1, by omega, by go_num, HN2, Lib.hid (by (repeat' first | exact Below.refl _ _ | assumption | (apply below_drewN) | (refine Below.setCell ?_ (by (try simp); (try omega)) _) | (refine Below.alloc ?_ (by (try simp); (try omega)) _) | (refine Below.trans ?_ (Below.mono (Hid.out (by assumption)) (by (try simp); (try omega))))))⟩
    case measure => simp [intOf]; omega
  ·obtain rfl : k = l.length := by omega
   have HV := Lib.hid (HNO.out (fun j hj => HN.out j hj hj))
   go_wp2_with fail
   go_ret
   rw [HV.out]; exact ⟨rfl, HB.out⟩
theorem wone_any (a b c d : Int) (w : World) : Calls Tryz.prog 40 #[.int .i64 a, .int .i64 b, .int .i64 c, .int .i64 d] w (fun e w' => ∃ g, e = .returned (.slice (some ⟨g, 0, none⟩) 1 1) ∧ RIn w' (some ⟨g, 0, none⟩) 1 [⟨a, b, c, d⟩] ∧ Below w.heap.size w w') := by
 have HI := Lib.hid (heap_alloc_new w (.cells #[.int .i64 a, .int .i64 b, .int .i64 c, .int .i64 d] 68))
 have HB : Hid (Below w.heap.size w (w.alloc (.cells #[.int .i64 a, .int .i64 b, .int .i64 c, .int .i64 d] 68))) := Lib.hid ((Below.refl _ _).alloc (Nat.le_refl _) _)
 go_enter Tryz.func40, Tryz.ntmps40
 go_wp2_with fail
 go_ret
 refine ⟨_, rfl, ⟨fun _ => ⟨_, 0, rfl, (Array.getElem?_eq_some_iff.1 HI.out).1, fun j hj => ?_⟩, by simp, by simp, by omega⟩, HB.out⟩
 obtain rfl : j = 0 := by simp at hj; exact hj
 exact ⟨by rw [Lib.cell_of_heap HI.out]; rfl, by rw [Lib.cell_of_heap HI.out]; rfl, by rw [Lib.cell_of_heap HI.out]; rfl, by rw [Lib.cell_of_heap HI.out]; rfl⟩
def fewB (L : List Lt) : Bool := (L.all fun t => decide (t.ar.length ≤ 20) && decide (t.fr.length ≤ 30)) && decide (L.length ≤ 12)
theorem few_bad {L : List Lt} {k : Nat} (hk : k < L.length) (h : 20 < L[k].ar.length ∨ 30 < L[k].fr.length) : fewB L = false := by
 unfold fewB
 have : (L.all fun t => decide (t.ar.length ≤ 20) && decide (t.fr.length ≤ 30)) = false := by
  rw [List.all_eq_false]
  exact ⟨L[k], List.getElem_mem hk, by simp; omega⟩
 rw [this]; rfl
theorem few_good {L : List Lt} (h : ∀ j (hj : j < L.length), L[j].ar.length ≤ 20 ∧ L[j].fr.length ≤ 30) : fewB L = decide (L.length ≤ 12) := by
 unfold fewB
 have : (L.all fun t => decide (t.ar.length ≤ 20) && decide (t.fr.length ≤ 30)) = true := by
  rw [List.all_eq_true]
  intro t ht
  obtain ⟨j, hj, rfl⟩ := List.getElem_of_mem ht
  have := h j hj
  simp; omega
 rw [this]; rfl
set_option maxHeartbeats 8000000 in
theorem mfew_any (A : Option Addr) (cap : Nat) (L : List Lt) (w : World) (h : LtIn w A cap L) : Calls Tryz.prog 10 #[.slice A L.length cap] w (BlIs (fewB L) w) := by
 have HL := Lib.hid h; clear h
 have hlen := HL.out.len
 have HBAD := Lib.hid (fun k (hk : k < L.length) h => few_bad (L := L) hk h)
 have HGD := Lib.hid (few_good (L := L))
 generalize fewB L = X at *
 go_enter Tryz.func10, Tryz.ntmps10
 go_wp2_with fail
 go_loopw [3] (fun i wr => ∃ (k : Nat), k ≤ L.length ∧ i = .int .i64 k ∧ Hid (∀ j (hj : j < L.length), j < k → L[j].ar.length ≤ 20 ∧ L[j].fr.length ≤ 30) ∧ Hid (Below w.heap.size w wr)) (fun i _ => L.length - (intOf i).toNat)
 case atStart => exact ⟨0, Nat.zero_le _, rfl, Lib.hid (fun j hj h => by omega), Lib.hid (Below.refl _ _)⟩
 case round =>
  obtain ⟨k, hk, rfl, HN, HB⟩ := hrel
  by_cases hlt : k < L.length
  ·obtain ⟨b, o, p, rfl, hb, hc, hi⟩ := HL.out.at_ hlt
   obtain ⟨x0, x1, x2, x3⟩ := hc.below hb HB.out
   have n0 : (0 : Int) ≤ (k : Int) := by omega
   have n1 : (k : Int) < (L.length : Int) := by omega
   have HY := Lib.hid (HBAD.out k hlt)
   have HNX : Hid (L[k].ar.length ≤ 20 ∧ L[k].fr.length ≤ 30 → ∀ j (hj : j < L.length), j < k + 1 → L[j].ar.length ≤ 20 ∧ L[j].fr.length ≤ 30) := Lib.hid (fun hne j hj hjk => by
    by_cases e : j = k
    ·subst e; exact hne
    ·exact HN.out j hj (by omega))
   clear hc hi
   generalize L[k] = u at *
   generalize u.ar.length = a at *
   generalize u.fr.length = f at *
   by_cases c : 20 < a
   ·have HV := Lib.hid (HY.out (.inl c))
    have s0 : (20 : Int) < (a : Int) := by omega
    clear HY HNX
    go_wp2_with fail
    go_ret
    rw [HV.out]; exact ⟨rfl, by (repeat' first | exact Below.refl _ _ | assumption | (apply below_drewN) | (refine Below.setCell ?_ (by (try simp); (try omega)) _) | (refine Below.alloc ?_ (by (try simp); (try omega)) _) | (refine Below.trans ?_ (Below.mono (Hid.out (by assumption)) (by (try simp); (try omega)))))⟩
   ·have s0 : ¬ (20 : Int) < (a : Int) := by omega
    by_cases d : 30 < f
    ·have HV := Lib.hid (HY.out (.inr d))
     have s1 : (30 : Int) < (f : Int) := by omega
     clear HY HNX
     go_wp2_with fail
     go_ret
     rw [HV.out]; exact ⟨rfl, by (repeat' first | exact Below.refl _ _ | assumption | (apply below_drewN) | (refine Below.setCell ?_ (by (try simp); (try omega)) _) | (refine Below.alloc ?_ (by (try simp); (try omega)) _) | (refine Below.trans ?_ (Below.mono (Hid.out (by assumption)) (by (try simp); (try omega)))))⟩
    ·have s1 : ¬ (30 : Int) < (f : Int) := by omega
     have HN2 := Lib.hid (HNX.out ⟨by omega, by omega⟩)
     clear HY HNX
     go_wp2_with fail
     go_roundw
     case rel => exact ⟨k + 1, by omega, by go_num, HN2, Lib.hid (by (repeat' first | exact Below.refl _ _ | assumption | (apply below_drewN) | (refine Below.setCell ?_ (by (try simp); (try omega)) _) | (refine Below.alloc ?_ (by (try simp); (try omega)) _) | (refine Below.trans ?_ (Below.mono (Hid.out (by assumption)) (by (try simp); (try omega))))))⟩
     case measure => simp [intOf]; omega
  ·obtain rfl : k = L.length := by omega
   have HV := Lib.hid (HGD.out (fun j hj => HN.out j hj hj))
   by_cases c : L.length ≤ 12
   ·have s0 : (L.length : Int) ≤ 12 := by omega
    go_wp2_with fail
    go_ret
    rw [HV.out]; exact ⟨by simp [c], HB.out⟩
   ·have s0 : ¬ (L.length : Int) ≤ 12 := by omega
    go_wp2_with fail
    go_ret
    rw [HV.out]; exact ⟨by simp [c], HB.out⟩
theorem tak_at {L : List Lt} {k : Nat} {n : Int} (hk : k < L.length) (h : L[k].id = n ∨ n ∈ L[k].fr) : takB L n = true := (takB_iff L n).2 ⟨L[k], List.getElem_mem hk, h⟩
theorem tak_no {L : List Lt} {n : Int} (h : ∀ j (hj : j < L.length), L[j].id ≠ n ∧ n ∉ L[j].fr) : takB L n = false := by
 cases hc : takB L n
 ·rfl
 ·obtain ⟨u, hu, h2⟩ := (takB_iff L n).1 hc
  obtain ⟨j, hj, rfl⟩ := List.getElem_of_mem hu
  rcases h2 with h2 | h2
  ·exact absurd h2 (h j hj).1
  ·exact absurd h2 (h j hj).2
set_option maxHeartbeats 8000000 in
theorem mtaken_any (A : Option Addr) (cap : Nat) (L : List Lt) (n : Int) (w : World) (h : LtIn w A cap L) : Calls Tryz.prog 98 #[.slice A L.length cap, .int .i64 n] w (BlIs (takB L n) w) := by
 have HL := Lib.hid h; clear h
 have hlen := HL.out.len
 have HYES := Lib.hid (fun k (hk : k < L.length) h => tak_at (n := n) hk h)
 have HNO := Lib.hid (tak_no (L := L) (n := n))
 generalize takB L n = X at *
 go_enter Tryz.func98, Tryz.ntmps98
 go_wp2_with fail
 go_loopw [5] (fun i wr => ∃ (k : Nat), k ≤ L.length ∧ i = .int .i64 k ∧ Hid (∀ j (hj : j < L.length), j < k → L[j].id ≠ n ∧ n ∉ L[j].fr) ∧ Hid (Below w.heap.size w wr)) (fun i _ => L.length - (intOf i).toNat)
 case atStart => exact ⟨0, Nat.zero_le _, rfl, Lib.hid (fun j hj h => by omega), Lib.hid (Below.refl _ _)⟩
 case round =>
  obtain ⟨k, hk, rfl, HN, HB⟩ := hrel
  by_cases hlt : k < L.length
  ·obtain ⟨b, o, p, rfl, hb, hc, hi⟩ := HL.out.at_ hlt
   obtain ⟨x0, x1, x2, x3⟩ := hc.below hb HB.out
   have n0 : (0 : Int) ≤ (k : Int) := by omega
   have n1 : (k : Int) < (L.length : Int) := by omega
   have HY := Lib.hid (HYES.out k hlt)
   have HNX : Hid (L[k].id ≠ n ∧ n ∉ L[k].fr → ∀ j (hj : j < L.length), j < k + 1 → L[j].id ≠ n ∧ n ∉ L[j].fr) := Lib.hid (fun hne j hj hjk => by
    by_cases e : j = k
    ·subst e; exact hne
    ·exact HN.out j hj (by omega))
   have HH := Lib.hid (fun w' (hb : Below w.heap.size w w') => mhas_any p.B p.d L[k].fr n w' (hi.fr.below hb))
   clear hc hi
   generalize L[k] = u at *
   obtain ⟨id, ow, ar, fr⟩ := u
   obtain ⟨PA, PC, PB, PD⟩ := p
   simp only at x0 x1 x2 x3 HH HY HNX
   by_cases c : id = n
   ·have HV := Lib.hid (HY.out (.inl c))
    have e0 : (id == n) = true := by simpa using c
    have C := Lib.hid c; clear c
    clear HY HNX
    go_wp2_with fail
    go_ret
    rw [HV.out]; exact ⟨rfl, by (repeat' first | exact Below.refl _ _ | assumption | (apply below_drewN) | (refine Below.setCell ?_ (by (try simp); (try omega)) _) | (refine Below.alloc ?_ (by (try simp); (try omega)) _) | (refine Below.trans ?_ (Below.mono (Hid.out (by assumption)) (by (try simp); (try omega)))))⟩
   ·have e0 : (id == n) = false := by simpa using c
    by_cases d : n ∈ fr
    ·have HV := Lib.hid (HY.out (.inr d))
     rw [decide_eq_true d] at HH
     clear HY HNX
     go_wp2_with fail
     refine (HH.out _ HB.out).mono ?_
     rintro e w5 ⟨rfl, hb5⟩
     have HB5 := Lib.hid (HB.out.trans (hb5.mono HB.out.size)); clear hb5
     go_wp2_with fail
     go_ret
     rw [HV.out]; exact ⟨rfl, HB5.out⟩
    ·have HN2 := Lib.hid (HNX.out ⟨c, d⟩)
     rw [decide_eq_false d] at HH
     clear HY HNX
     go_wp2_with fail
     refine (HH.out _ HB.out).mono ?_
     rintro e w5 ⟨rfl, hb5⟩
     have HB5 := Lib.hid (HB.out.trans (hb5.mono HB.out.size)); clear hb5
     go_wp2_with fail
     go_roundw
     case rel => exact ⟨k + 1, by omega, by go_num, HN2, HB5⟩
     case measure => simp [intOf]; omega
  ·obtain rfl : k = L.length := by omega
   have HV := Lib.hid (HNO.out (fun j hj => HN.out j hj hj))
   go_wp2_with fail
   go_ret
   rw [HV.out]; exact ⟨rfl, HB.out⟩
end Go.Proofs.YtngddecpfhlilaaGreat
