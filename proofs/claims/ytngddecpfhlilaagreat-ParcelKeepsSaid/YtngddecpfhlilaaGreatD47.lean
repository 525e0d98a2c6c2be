/-
  Contracts of layer 13 (22): At.
  Lots (layer 13): an operation of the laws, and what it keeps. No program in this text.
  Operations on lots that were handed in: how they lie in memory; FewOps; their opening.
  The laws of layer 13: an operation.
-/
import Derived.Test.YtngddecpfhlilaaGreatD13
import Derived.Test.YtngddecpfhlilaaGreatD22
import Derived.Test.YtngddecpfhlilaaGreatD46
import Derived.Test.YtngddecpfhlilaaGreatD37
import Derived.Test.YtngddecpfhlilaaGreatD41
set_option linter.unusedVariables false
set_option maxRecDepth 100000
namespace Go.Proofs.YtngddecpfhlilaaGreat
open Go.RowKit
noncomputable def atG (L : List Lt) (x y : Int) : Option Lt := L.find? fun t => hasRg t.ar x y
def IdR (o : Option Lt) (w : World) (e : Ending) (w' : World) : Prop := e = .returned (.tuple #[.int .i64 ((o.map fun t => t.id).getD 0), .bool o.isSome]) ∧ Below w.heap.size w w'
theorem atG_at {L : List Lt} {k : Nat} {x y : Int} (hk : k < L.length) (h : ∀ j (hj : j < L.length), j < k → hasRg L[j].ar x y = false) (e : hasRg L[k].ar x y = true) : atG L x y = some L[k] := by
 unfold atG
 refine List.find?_eq_some_iff_getElem.2 ⟨e, k, hk, rfl, fun j hj => ?_⟩
 rw [h j (by omega) hj]; rfl
theorem atG_no {L : List Lt} {x y : Int} (h : ∀ j (hj : j < L.length), hasRg L[j].ar x y = false) : atG L x y = none := by
 unfold atG
 refine List.find?_eq_none.2 (fun t ht c => ?_)
 obtain ⟨j, hj, rfl⟩ := List.getElem_of_mem ht
 rw [h j hj] at c
 exact absurd c (by simp)
set_option maxHeartbeats 16000000 in
theorem at13_any (A : Option Addr) (cap : Nat) (L : List Lt) (x y : Int) (w : World) (h : LtIn w A cap L) :
  Calls Tryz.prog 15 #[.slice A L.length cap, .int .i64 x, .int .i64 y] w (IdR (atG L x y) w) := by
 have HL := Lib.hid h; clear h
 have hlen := HL.out.len
 go_enter Tryz.func15, Tryz.ntmps15
 go_wp2_with fail
 go_loopw [12] (fun i wr => ∃ (k : Nat), k ≤ L.length ∧ i = .int .i64 k ∧ Hid (∀ j (hj : j < L.length), j < k → hasRg L[j].ar x y = false) ∧ Hid (Below w.heap.size w wr)) (fun i _ => L.length - (intOf i).toNat)
 case atStart => exact ⟨0, Nat.zero_le _, rfl, Lib.hid (fun j hj h => by omega), Lib.hid (Below.refl _ _)⟩
 case round =>
  obtain ⟨k, hk, rfl, HN, HW⟩ := hrel
  by_cases hlt : k < L.length
  ·obtain ⟨b, o, p, rfl, hb, hc, hi⟩ := HL.out.at_ hlt
   obtain ⟨x0, x1, x2, x3⟩ := hc.below hb HW.out
   have n0 : (0 : Int) ≤ (k : Int) := by omega
   have n1 : (k : Int) < (L.length : Int) := by omega
   have HFA := Lib.hid (atG_at (x := x) (y := y) hlt HN.out)
   have HNX : Hid (hasRg L[k].ar x y = false → ∀ j (hj : j < L.length), j < k + 1 → hasRg L[j].ar x y = false) := Lib.hid (fun hne j hj hjk => by
    by_cases e : j = k
    ·subst e; exact hne
    ·exact HN.out j hj (by omega))
   have HHA := Lib.hid (fun w' (hb : Below w.heap.size w w') => ghas_any p.A p.c L[k].ar x y w' (hi.ar.below hb))
   clear hc hi HN
   generalize L[k] = t at *
   obtain ⟨id, ow, ar, fr⟩ := t
   obtain ⟨PA, PC, PB, PD⟩ := p
   simp only at x0 x1 x2 x3 HHA HFA HNX
   generalize hasRg ar x y = z at *
   have HB2 : Hid (∀ o, Below w.heap.size w (wr.alloc o)) := Lib.hid (fun o => HW.out.trans (((Below.refl _ _).alloc (Nat.le_refl _) _).mono HW.out.size))
   have hat := heap_alloc_new wr (.cells #[.int .i64 id, .int .i64 ow, .slice PA ar.length PC, .slice PB fr.length PD] 40)
   have HAT := Lib.hid hat; clear hat
   have hws : wr.heap.size < (wr.alloc (.cells #[.int .i64 id, .int .i64 ow, .slice PA ar.length PC, .slice PB fr.length PD] 40)).heap.size := by rw [World.size_alloc]; omega
   go_wp2_with fail
   refine (HHA.out _ (HB2.out _)).mono ?_
   rintro e w5 ⟨rfl, hb5⟩
   have HB5 := Lib.hid ((HB2.out _).trans (hb5.mono (HB2.out _).size))
   have y0 : w5.cell? ⟨wr.heap.size, 0, none⟩ = some (.int .i64 id) := (hb5.cell (p := ⟨wr.heap.size, 0, none⟩) hws).trans (by rw [Lib.cell_of_heap HAT.out]; rfl)
   have yl : wr.heap.size < w5.heap.size := Nat.lt_of_lt_of_le hws hb5.size
   clear hb5 x0 x1 x2 x3 hws HAT
   cases z
   ·have HN2 := Lib.hid (HNX.out rfl)
    clear HNX HFA HHA
    go_wp2_with fail
    go_roundw
    case rel => exact ⟨k + 1, by omega, by go_num, HN2, HB5⟩
    case measure => simp [intOf]; omega
   ·have HF := Lib.hid (HFA.out rfl)
    clear HNX HFA HHA
    go_wp2_with fail
    go_ret2
    rw [HF.out]
    exact ⟨rfl, HB5.out⟩
  ·obtain rfl : k = L.length := by omega
   have HF := Lib.hid (atG_no (fun j hj => HN.out j hj hj))
   clear HN
   go_wp2_with fail
   go_ret2
   rw [HF.out]
   exact ⟨rfl, HW.out⟩
end Go.Proofs.YtngddecpfhlilaaGreat
namespace Go.Proofs.YtngddecpfhlilaaGreat
structure Op13 where
 k : Int
 id : Int
 a : Int
 b : Int
 n : Int
 ar : List Rc
 ids : List Int
noncomputable def doR (L : List Lt) (o : Op13) : List Lt × Int :=
 if o.k = 0 then addM landB lotB L ⟨o.id, o.n, (ofR o.ar).1, []⟩
 else if o.k = 1 then splitM landB rgB oneB L o.id (ofR o.ar).1 o.a o.b
 else if o.k = 2 then joinG L (sortS o.ids) o.ids.length o.id
 else if o.k = 3 then transM landB L o.id o.n
 else (L, 0)
noncomputable def doM (L : List Lt) (o : Op13) : List Lt × Int := if (doR L o).2 = 0 then ((doR L o).1, 0) else (L, (doR L o).2)
theorem doM_code (L : List Lt) (o : Op13) : (doM L o).2 = (doR L o).2 := by
 unfold doM
 split
 ·next h => exact h.symm
 ·rfl
theorem doM_err {L : List Lt} {o : Op13} (h : (doM L o).2 ≠ 0) : (doM L o).1 = L := by
 rw [doM_code] at h
 unfold doM
 rw [if_neg h]
theorem doM_res {L : List Lt} {o : Op13} (h : (doM L o).2 = 0) : (doM L o).1 = (doR L o).1 := by
 rw [doM_code] at h
 unfold doM
 rw [if_pos h]
theorem do_ok {L : List Lt} {o : Op13} (h : (doM L o).2 = 0) :
  (o.k = 0 ∧ AddOk oneB ⟨o.id, o.n, (ofR o.ar).1, []⟩ L ∧ (doM L o).1 = chL [] [⟨o.id, o.n, (ofR o.ar).1, []⟩] L) ∨
  (o.k = 1 ∧ ∃ t, t.id = o.id ∧ SplitOk oneB t (ofR o.ar).1 o.a o.b L ∧ (doM L o).1 = chL [o.id] (splitN t (ofR o.ar).1 o.a o.b) L) ∨
  (o.k = 2 ∧ ∃ t, t.id = o.id ∧ JoinOk oneB (sortS o.ids) t L ∧ IsForm t.ar ∧ (∀ u ∈ L, u.id ∈ o.ids → u.ow = t.ow) ∧ (doM L o).1 = chL (sortS o.ids) [t] L) ∨
  (o.k = 3 ∧ ∃ t ∈ L, t.id = o.id ∧ 0 ≤ o.n ∧ o.n ≤ 1073741824 ∧ (doM L o).1 = chL [o.id] [ownT t o.n] L) ∨
  (o.k ≠ 0 ∧ o.k ≠ 1 ∧ o.k ≠ 2 ∧ o.k ≠ 3 ∧ (doM L o).1 = L) := by
 rw [doM_res h]
 rw [doM_code] at h
 unfold doR at h ⊢
 by_cases c0 : o.k = 0
 ·rw [if_pos c0] at h ⊢
  obtain ⟨_, h2, h3⟩ := addM_ok par13 h
  exact .inl ⟨c0, h2, h3⟩
 rw [if_neg c0] at h ⊢
 by_cases c1 : o.k = 1
 ·rw [if_pos c1] at h ⊢
  obtain ⟨_, t, h2, h3, h4⟩ := splitM_ok par13 h
  exact .inr (.inl ⟨c1, t, h2, h3, h4⟩)
 rw [if_neg c1] at h ⊢
 by_cases c2 : o.k = 2
 ·rw [if_pos c2] at h ⊢
  obtain ⟨_, t, h2, h3, h4, h5, h6⟩ := joinG_ok h
  exact .inr (.inr (.inl ⟨c2, t, h2, h3, h4, h5, h6⟩))
 rw [if_neg c2] at h ⊢
 by_cases c3 : o.k = 3
 ·rw [if_pos c3] at h ⊢
  obtain ⟨_, h2, h3, t, h4, h5, h6⟩ := transM_ok par13 h
  exact .inr (.inr (.inr (.inl ⟨c3, t, h4, h5, h2, h3, h6⟩)))
 rw [if_neg c3]
 exact .inr (.inr (.inr (.inr ⟨c0, c1, c2, c3, rfl⟩)))
theorem ch_none (L : List Lt) : chL [] [] L = L := by
 show wthL [] L = L
 exact wth_nil L
structure Ch13 (L : List Lt) (o : Op13) (G : List Int) (N : List Lt) : Prop where
 chg : LChg oneB G N L
 same : Same13 G N L
 res : (doM L o).1 = chL G N L
 tot : totL (chL G N L) = totL L
 own : ∀ t ∈ L, t.id ∈ G → ∀ w ∈ N, ∀ x y, HasL t.ar x y → HasL w.ar x y → w.ow = if o.k = 3 then o.n else t.ow
 gone : o.k = 3 → G = [o.id]
theorem forms_of {L : List Lt} (h : Land oneB L) : ∀ u ∈ L, IsForm u.ar ∧ ∀ r ∈ u.ar, ROk r := fun u hu => oneB_ok (h.ok u hu).one
theorem do_chg {L : List Lt} {o : Op13} (hl : Land oneB L) (h : (doM L o).2 = 0) (h0 : o.k ≠ 0) : ∃ G N, Ch13 L o G N := by
 rcases do_ok h with ⟨c, _⟩ | ⟨c, t, e, s, hr⟩ | ⟨c, t, e, s, hf, hw, hr⟩ | ⟨c, t, ht, e, g1, g2, hr⟩ | ⟨_, c1, c2, c3, hr⟩
 ·exact absurd c h0
 ·refine ⟨[t.id], splitN t (ofR o.ar).1 o.a o.b, split_chg hl s, split_same hl s, by rw [hr, e], split_tot hl s (forms_of hl t s.mem).1, fun u hu hi w hw x y _ _ => ?_, fun c3 => by omega⟩
  have e1 : u.id = t.id := by simpa using hi
  have e2 := hl.asc.one hu s.mem e1
  rw [if_neg (by omega), e2]
  unfold splitN at hw
  simp only [List.mem_cons, List.not_mem_nil, or_false] at hw
  rcases hw with e3 | e3 <;> rw [e3]
 ·obtain ⟨k1, k2⟩ := join_chg hl s
  refine ⟨sortS o.ids, [t], k1, k2, hr, join_tot hl s (forms_of hl) hf, fun u hu hi w hw2 x y _ _ => ?_, fun c3 => by omega⟩
  have e3 : w = t := by simpa using hw2
  rw [if_neg (by omega), e3]
  exact (hw u hu (((sortS_is o.ids).2 _).1 hi)).symm
 ·obtain ⟨k1, k2⟩ := trans_chg hl ht ⟨g1, g2⟩
  refine ⟨[t.id], [ownT t o.n], k1, k2, by rw [hr, e], trans_tot hl ht o.n, fun u hu hi w hw2 x y _ _ => ?_, fun _ => by rw [e]⟩
  have e3 : w = ownT t o.n := by simpa using hw2
  rw [if_pos c, e3]
  rfl
 ·refine ⟨[], [], ⟨by rw [ch_none]; exact hl.len, (fun t ht => nomatch ht), trivial, (fun t ht => nomatch ht), (fun t ht => nomatch ht), (fun t ht => nomatch ht), (fun t ht => nomatch ht)⟩,
   ⟨(fun k hk => nomatch hk), (fun w hw => nomatch hw), (fun t ht hi => nomatch hi), (fun t ht hi => nomatch hi), (fun t ht hi => nomatch hi)⟩, by rw [hr, ch_none], by rw [ch_none], (fun t ht hi => nomatch hi), fun c => absurd c c3⟩
theorem do_land {L : List Lt} {o : Op13} (hl : Land oneB L) : Land oneB (doM L o).1 := by
 by_cases h : (doM L o).2 = 0
 ·by_cases h0 : o.k = 0
  ·rcases do_ok h with ⟨_, s, hr⟩ | ⟨c, _⟩ | ⟨c, _⟩ | ⟨c, _⟩ | ⟨c, _⟩
   ·rw [hr]; exact hl.chg (add_chg s)
   all_goals (exfalso; omega)
  ·obtain ⟨G, N, c⟩ := do_chg hl h h0
   rw [c.res]; exact hl.chg c.chg
 ·rw [doM_err h]; exact hl
theorem hasRg_land {L : List Lt} (h : Land oneB L) {t : Lt} (ht : t ∈ L) (x y : Int) : hasRg t.ar x y = true ↔ HasL t.ar x y := by
 have h1 := oneB_reg (h.ok t ht).one
 unfold hasRg
 constructor
 ·intro c
  first
   | exact ((@decide_eq_true_iff _ (Classical.propDecidable _)).1 c).2
   | (simp only [Bool.and_eq_true, decide_eq_true_eq] at c; exact (has_iff _ _ _).1 c.2)
 ·intro c
  first
   | exact (@decide_eq_true_iff _ (Classical.propDecidable _)).2 ⟨h1, c⟩
   | (simp only [Bool.and_eq_true, decide_eq_true_eq]; exact ⟨h1, (has_iff _ _ _).2 c⟩)
theorem atG_iff {L : List Lt} (h : Land oneB L) {x y : Int} {t : Lt} : atG L x y = some t ↔ t ∈ L ∧ HasL t.ar x y := by
 unfold atG
 constructor
 ·intro e
  have hm := List.mem_of_find?_eq_some e
  have hp : hasRg t.ar x y = true := List.find?_some (p := fun t : Lt => hasRg t.ar x y) e
  exact ⟨hm, (hasRg_land h hm x y).1 hp⟩
 ·rintro ⟨hm, hp⟩
  cases e : L.find? fun t => hasRg t.ar x y with
  | none =>
   have := List.find?_eq_none.1 e t hm
   exact absurd ((hasRg_land h hm x y).2 hp) this
  | some u =>
   have hm2 := List.mem_of_find?_eq_some e
   have hp1 : hasRg u.ar x y = true := List.find?_some (p := fun t : Lt => hasRg t.ar x y) e
   have hp2 := (hasRg_land h hm2 x y).1 hp1
   rw [h.at_one hm2 hm hp2 hp]
theorem atG_none {L : List Lt} (h : Land oneB L) {x y : Int} : atG L x y = none ↔ ∀ t ∈ L, ¬ HasL t.ar x y := by
 constructor
 ·intro e t ht c
  rw [(atG_iff h).2 ⟨ht, c⟩] at e
  cases e
 ·intro hn
  cases e : atG L x y with
  | none => rfl
  | some u => exact absurd ((atG_iff h).1 e).2 (hn u ((atG_iff h).1 e).1)
theorem at_same {L : List Lt} {G : List Int} {N : List Lt} (h : Land oneB L) (c : LChg oneB G N L) (s : Same13 G N L) (x y : Int) :
  (atG L x y = none ∧ atG (chL G N L) x y = none) ∨ ∃ t u, atG L x y = some t ∧ atG (chL G N L) x y = some u ∧ ((t.id ∉ G ∧ u = t) ∨ (t.id ∈ G ∧ u ∈ N)) := by
 have hb := h.chg c
 cases e : atG L x y with
 | none =>
  refine .inl ⟨rfl, (atG_none hb).2 (fun t ht k => ?_)⟩
  obtain ⟨u, hu, k2⟩ := (s.has x y).1 ⟨t, ht, k⟩
  exact (atG_none h).1 e u hu k2
 | some t =>
  obtain ⟨ht, k⟩ := (atG_iff h).1 e
  refine .inr ?_
  by_cases hg : t.id ∈ G
  ·obtain ⟨w, hw, k2⟩ := s.down t ht hg x y k
   exact ⟨t, w, rfl, (atG_iff hb).2 ⟨mem_chL.2 (.inl hw), k2⟩, .inr ⟨hg, hw⟩⟩
  ·exact ⟨t, t, rfl, (atG_iff hb).2 ⟨mem_chL.2 (.inr ⟨ht, hg⟩), k⟩, .inl ⟨hg, rfl⟩⟩
def nmG (x : Option Lt) : Int := (x.map fun t => t.id).getD 0
noncomputable def owG (L : List Lt) (n : Int) : Int := ((findL L n).getD lt0).ow
theorem keeps_chg {L : List Lt} {o : Op13} (h : Land oneB L) (hz : (doM L o).2 = 0) (h0 : o.k ≠ 0) (x y : Int) :
  (atG (doM L o).1 x y).isSome = (atG L x y).isSome ∧ ((atG (doM L o).1 x y).isSome = true → owG (doM L o).1 (nmG (atG (doM L o).1 x y)) = if o.k = 3 ∧ nmG (atG L x y) = o.id then o.n else owG L (nmG (atG L x y))) ∧ totL (doM L o).1 = totL L := by
 obtain ⟨G, N, c⟩ := do_chg h hz h0
 have hb := h.chg c.chg
 rw [c.res]
 rcases at_same h c.chg c.same x y with ⟨e1, e2⟩ | ⟨t, u, e1, e2, hh⟩
 ·rw [e1, e2]
  exact ⟨rfl, fun k => (by cases k), c.tot⟩
 ·obtain ⟨ht, k1⟩ := (atG_iff h).1 e1
  obtain ⟨hu, k2⟩ := (atG_iff hb).1 e2
  rw [e1, e2]
  refine ⟨rfl, fun _ => ?_, c.tot⟩
  show ((findL (chL G N L) u.id).getD lt0).ow = if o.k = 3 ∧ t.id = o.id then o.n else ((findL L t.id).getD lt0).ow
  rw [find_of hb.asc hu, find_of h.asc ht]
  show u.ow = if o.k = 3 ∧ t.id = o.id then o.n else t.ow
  rcases hh with ⟨g, rfl⟩ | ⟨g, hn⟩
  ·have : ¬ (o.k = 3 ∧ u.id = o.id) := by
    rintro ⟨c3, c4⟩
    rw [c.gone c3] at g
    exact g (by rw [c4]; simp)
   rw [if_neg this]
  ·rw [c.own t ht g u hn x y k1 k2]
   by_cases c3 : o.k = 3
   ·have : t.id = o.id := by rw [c.gone c3] at g; simpa using g
    rw [if_pos c3, if_pos ⟨c3, this⟩]
   ·rw [if_neg c3, if_neg (fun k => c3 k.1)]
theorem ofR_reg {l : List Rc} : RegP (ofR l).1 ∨ (ofR l).1 = [] := by
 unfold ofR capR
 split
 ·next h =>
  split
  ·split
   ·next h2 => exact .inl ⟨(formL_is h).1, h2⟩
   ·exact .inr rfl
  ·exact .inr rfl
 ·exact .inr rfl
theorem regP_nil : RegP [] := ⟨isForm_nil, by simp⟩
theorem ofR_regP (l : List Rc) : RegP (ofR l).1 := by
 rcases @ofR_reg l with h | h
 ·exact h
 ·rw [h]; exact regP_nil
theorem keeps_add {L : List Lt} {o : Op13} (h : Land oneB L) (hz : (doM L o).2 = 0) (h0 : o.k = 0) (x y : Int) :
  (atG (doM L o).1 x y).isSome = ((atG L x y).isSome || hasRg (ofR o.ar).1 x y) ∧ ((atG L x y).isSome = true → hasRg (ofR o.ar).1 x y = false) ∧ (hasRg (ofR o.ar).1 x y = true → nmG (atG (doM L o).1 x y) = o.id) ∧
  ((atG L x y).isSome = true → nmG (atG (doM L o).1 x y) = nmG (atG L x y)) ∧ totL (doM L o).1 = totL L + areaL (ofR o.ar).1 := by
 rcases do_ok hz with ⟨_, s, hr⟩ | ⟨c, _⟩ | ⟨c, _⟩ | ⟨c, _⟩ | ⟨c, _⟩
 rotate_left
 all_goals first | (exfalso; omega) | skip
 have hb := h.chg (add_chg s)
 rw [hr]
 generalize (ofR o.ar).1 = A at *
 have hA : hasRg A x y = true ↔ HasL A x y := hasRg_land hb (t := ⟨o.id, o.n, A, []⟩) (mem_chL.2 (.inl (by simp))) x y
 have htot : totL (chL [] [⟨o.id, o.n, A, []⟩] L) = totL L + areaL A := add_tot _ _
 cases hh : hasRg A x y with
 | true =>
  have k := hA.1 hh
  have e2 : atG (chL [] [⟨o.id, o.n, A, []⟩] L) x y = some ⟨o.id, o.n, A, []⟩ := (atG_iff hb).2 ⟨mem_chL.2 (.inl (by simp)), k⟩
  have e1 : atG L x y = none := (atG_none h).2 (fun t ht k2 => s.off t ht x y ⟨k, k2⟩)
  rw [e1, e2]
  exact ⟨rfl, fun c => (by cases c), fun _ => rfl, fun c => (by cases c), htot⟩
 | false =>
  have k : ¬ HasL A x y := fun c => by rw [hA.2 c] at hh; cases hh
  cases e1 : atG L x y with
  | none =>
   have e2 : atG (chL [] [⟨o.id, o.n, A, []⟩] L) x y = none := (atG_none hb).2 (fun t ht k2 => by
    rcases mem_chL.1 ht with ht | ⟨ht, _⟩
    ·have : t = ⟨o.id, o.n, A, []⟩ := by simpa using ht
     rw [this] at k2; exact k k2
    ·exact (atG_none h).1 e1 t ht k2)
   rw [e2]
   exact ⟨rfl, fun c => (by cases c), fun c => (by cases c), fun c => (by cases c), htot⟩
  | some t =>
   obtain ⟨ht, k2⟩ := (atG_iff h).1 e1
   have e2 : atG (chL [] [⟨o.id, o.n, A, []⟩] L) x y = some t := (atG_iff hb).2 ⟨mem_chL.2 (.inr ⟨ht, by simp⟩), k2⟩
   rw [e2]
   exact ⟨rfl, fun _ => rfl, fun c => (by cases c), fun _ => rfl, htot⟩
theorem ids_cons (t : Lt) (L : List Lt) : (idsL (t :: L)).length = t.fr.length + 1 + (idsL L).length := by
 unfold idsL
 rw [List.flatMap_cons, List.length_append, List.length_cons]
theorem ids_ins (t : Lt) : ∀ L, (idsL (insL t L)).length = t.fr.length + 1 + (idsL L).length
 | [] => by unfold insL; rw [ids_cons]
 | v :: L => by
  unfold insL
  split
  ·rw [ids_cons, ids_ins t L, ids_cons]; omega
  ·rw [ids_cons]
theorem ids_fold : ∀ (n a : List Lt), (idsL (n.foldl (fun a t => insL t a) a)).length = (idsL n).length + (idsL a).length
 | [], a => by simp [idsL]
 | t :: n, a => by rw [List.foldl_cons, ids_fold n, ids_ins, ids_cons]; omega
theorem ids_ch (G : List Int) (N L : List Lt) : (idsL (chL G N L)).length ≤ (idsL N).length + (idsL L).length := by
 unfold chL
 rw [ids_fold]
 have := ids_filter (fun t => decide (t.id ∉ G)) L
 unfold wthL
 omega
theorem ids_mem {L : List Lt} {t : Lt} (h : t ∈ L) : t.fr.length + 1 ≤ (idsL L).length := by
 induction L with
 | nil => exact nomatch h
 | cons v L ih =>
  rw [ids_cons]
  rcases List.mem_cons.1 h with e | h
  ·rw [e]; omega
  ·have := ih h; omega
theorem insS_le (x : Int) (t : List Int) : (insS x t).length ≤ t.length + 1 := by
 have := sortS_len (t ++ [x])
 by_cases c : x ∈ t
 ·induction t with
  | nil => simp [insS]
  | cons a t ih =>
   unfold insS
   split
   ·simp
   ·split
    ·simp
    ·have := sortS_len (t ++ [x])
     by_cases c2 : x ∈ t
     ·have := ih this c2; simp; omega
     ·have := insS_lenA c2; simp; omega
 ·have := insS_lenA c; omega
theorem asc_sub13 : ∀ {t s : List Int}, Asc t → Asc s → (∀ z ∈ t, z ∈ s) → t.length ≤ s.length
 | [], s, _, _, _ => by simp
 | a :: t, [], _, _, h => nomatch h a (by simp)
 | a :: t, b :: s, ht, hs, h => by
  rw [List.length_cons, List.length_cons]
  have h1 : t.length ≤ s.length := asc_sub13 ht.tail hs.tail (fun z hz => by
   have k1 := ht.lt z hz
   rcases List.mem_cons.1 (h a (by simp)) with e | k2
   ·rcases List.mem_cons.1 (h z (List.mem_cons_of_mem _ hz)) with e2 | k3
    ·omega
    ·exact k3
   ·have k4 := hs.lt a k2
    rcases List.mem_cons.1 (h z (List.mem_cons_of_mem _ hz)) with e2 | k3
    ·omega
    ·exact k3)
  omega
theorem do_ids {L : List Lt} {o : Op13} (hl : Land oneB L) : (idsL (doM L o).1).length ≤ 3 * (idsL L).length + 4 := by
 by_cases h : (doM L o).2 = 0
 ·rcases do_ok h with ⟨_, s, hr⟩ | ⟨c, t, e, s, hr⟩ | ⟨c, t, e, s, hf, hw, hr⟩ | ⟨c, t, ht, e, g1, g2, hr⟩ | ⟨_, c1, c2, c3, hr⟩
  ·rw [hr]
   have := ids_ch [] [⟨o.id, o.n, (ofR o.ar).1, []⟩] L
   rw [ids_cons] at this
   simp [idsL] at this ⊢; omega
  ·rw [hr]
   have h1 := ids_ch [o.id] (splitN t (ofR o.ar).1 o.a o.b) L
   have h2 := ids_mem s.mem
   have h3 := insS_le t.id t.fr
   unfold splitN at h1
   rw [ids_cons, ids_cons] at h1
   have h4 : (idsL []).length = 0 := rfl
   simp only at h1
   unfold splitN
   omega
  ·rw [hr]
   have h1 := ids_ch (sortS o.ids) [t] L
   rw [ids_cons] at h1
   have h4 : (idsL []).length = 0 := rfl
   have h5 : t.fr.length ≤ (idsL L).length := by
    have h6 : t.fr = sortS t.fr := asc_eq s.ok.fr.1 (sortS_is _).1 (fun z => ((sortS_is _).2 z).symm)
    have h7 : ∀ z ∈ t.fr, z ∈ sortS (idsL L) := fun z hz => by
     obtain ⟨u, hu, _, k⟩ := (s.fr z).1 hz
     exact ((sortS_is _).2 z).2 ((mem_idsL z L).2 ⟨u, hu, k⟩)
    have h8 := sortS_len (idsL L)
    have h9 := asc_sub13 s.ok.fr.1 (sortS_is (idsL L)).1 h7
    omega
   omega
  ·rw [hr]
   have h1 := ids_ch [o.id] [ownT t o.n] L
   rw [ids_cons] at h1
   have h2 := ids_mem ht
   have h4 : (idsL []).length = 0 := rfl
   have h5 : (ownT t o.n).fr = t.fr := rfl
   rw [h5] at h1
   omega
  ·rw [hr]; omega
 ·rw [doM_err h]; omega
end Go.Proofs.YtngddecpfhlilaaGreat
namespace Go.Proofs.YtngddecpfhlilaaGreat
open Go.RowKit Go.ChangeShapes Go.WideShapes Go.ChangeAt Go.Joins Go.Deep
def opc (x : Op13) (p : LtP) : List Value := [.int .i64 x.k, .int .i64 x.id, .int .i64 x.a, .int .i64 x.b, .int .i64 x.n, .slice p.A x.ar.length p.c, .slice p.B x.ids.length p.d]
def opv (x : Op13) (p : LtP) : Value := .agg #[.int .i64 x.k, .int .i64 x.id, .int .i64 x.a, .int .i64 x.b, .int .i64 x.n, .slice p.A x.ar.length p.c, .slice p.B x.ids.length p.d]
def OpC (w : World) (b o : Nat) (x : Op13) (p : LtP) : Prop := w.cell? ⟨b, o, none⟩ = some (.int .i64 x.k) ∧ w.cell? ⟨b, o + 1, none⟩ = some (.int .i64 x.id) ∧ w.cell? ⟨b, o + 2, none⟩ = some (.int .i64 x.a) ∧ w.cell? ⟨b, o + 3, none⟩ = some (.int .i64 x.b) ∧ w.cell? ⟨b, o + 4, none⟩ = some (.int .i64 x.n) ∧ w.cell? ⟨b, o + 5, none⟩ = some (.slice p.A x.ar.length p.c) ∧ w.cell? ⟨b, o + 6, none⟩ = some (.slice p.B x.ids.length p.d)
theorem OpC.below {w w' : World} {b o : Nat} {x : Op13} {p : LtP} (h : OpC w b o x p) (hl : b < w.heap.size) (hb : Below w.heap.size w w') : OpC w' b o x p := by
 obtain ⟨h0, h1, h2, h3, h4, h5, h6⟩ := h
 have wc := fun k => hb.cell (p := ⟨b, k, none⟩) hl
 exact ⟨(wc _).trans h0, (wc _).trans h1, (wc _).trans h2, (wc _).trans h3, (wc _).trans h4, (wc _).trans h5, (wc _).trans h6⟩
structure OpOI (w : World) (t : Op13) (p : LtP) : Prop where
 ar : RRow w p.A t.ar
 al : t.ar.length ≤ p.c
 ac : p.c ≤ 9223372036854775807
 ids : IRow w p.B t.ids
 bl : t.ids.length ≤ p.d
 bc : p.d ≤ 9223372036854775807
theorem OpOI.below {w w' : World} {t : Op13} {p : LtP} (h : OpOI w t p) (hb : Below w.heap.size w w') : OpOI w' t p := ⟨h.ar.below hb, h.al, h.ac, h.ids.below hb, h.bl, h.bc⟩
def OpORow (w : World) (A : Option Addr) (L : List Op13) : Prop := 0 < L.length → ∃ b off, A = some ⟨b, off, none⟩ ∧ b < w.heap.size ∧ ∀ j (h : j < L.length), ∃ p, OpC w b (off + j * 7) L[j] p ∧ OpOI w L[j] p
structure OpO (w : World) (A : Option Addr) (cap : Nat) (L : List Op13) : Prop where
 row : OpORow w A L
 room : L.length ≤ cap
 room2 : cap ≤ 9223372036854775807
theorem OpO.len {w : World} {A : Option Addr} {cap : Nat} {L : List Op13} (h : OpO w A cap L) : L.length ≤ 9223372036854775807 := Nat.le_trans h.room h.room2
theorem OpO.below {w w' : World} {A : Option Addr} {cap : Nat} {L : List Op13} (h : OpO w A cap L) (hb : Below w.heap.size w w') : OpO w' A cap L := ⟨fun h0 => by
 obtain ⟨b, off, e, hl, hc⟩ := h.row h0
 refine ⟨b, off, e, Nat.lt_of_lt_of_le hl hb.size, fun j hj => ?_⟩
 obtain ⟨p, hp, hi⟩ := hc j hj
 exact ⟨p, hp.below hl hb, hi.below hb⟩, h.room, h.room2⟩
theorem OpO.fut {w : World} {A : Option Addr} {c : Nat} {L : List Op13} (h : OpO w A c L) : Fut w (fun w' => OpO w' A c L) := fun w' hb => h.below hb
theorem OpO.at_ {w : World} {A : Option Addr} {cap : Nat} {L : List Op13} (h : OpO w A cap L) {j : Nat} (hj : j < L.length) : ∃ b off p, A = some ⟨b, off, none⟩ ∧ b < w.heap.size ∧ OpC w b (off + j * 7) L[j] p ∧ OpOI w L[j] p := by
 obtain ⟨b, off, e, hl, hc⟩ := h.row (by omega)
 obtain ⟨p, hp, hi⟩ := hc j hj
 exact ⟨b, off, p, e, hl, hp, hi⟩
def fewOB (L : List Op13) : Bool := (L.all fun t => decide (t.ar.length ≤ 10) && decide (t.ids.length ≤ 8)) && decide (L.length ≤ 12)
theorem fewO_bad {L : List Op13} {k : Nat} (hk : k < L.length) (h : 10 < L[k].ar.length ∨ 8 < L[k].ids.length) : fewOB L = false := by
 unfold fewOB
 have : (L.all fun t => decide (t.ar.length ≤ 10) && decide (t.ids.length ≤ 8)) = false := by
  rw [List.all_eq_false]
  exact ⟨L[k], List.getElem_mem hk, by simp; omega⟩
 rw [this]; rfl
theorem fewO_good {L : List Op13} (h : ∀ j (hj : j < L.length), L[j].ar.length ≤ 10 ∧ L[j].ids.length ≤ 8) : fewOB L = decide (L.length ≤ 12) := by
 unfold fewOB
 have : (L.all fun t => decide (t.ar.length ≤ 10) && decide (t.ids.length ≤ 8)) = true := by
  rw [List.all_eq_true]
  intro t ht
  obtain ⟨j, hj, rfl⟩ := List.getElem_of_mem ht
  have := h j hj
  simp; omega
 rw [this]; rfl
theorem fewO_len {L : List Op13} (h : fewOB L = true) : L.length ≤ 12 ∧ ∀ t ∈ L, t.ar.length ≤ 10 ∧ t.ids.length ≤ 8 := by
 unfold fewOB at h
 rw [Bool.and_eq_true, List.all_eq_true] at h
 refine ⟨by simpa using h.2, fun t ht => ?_⟩
 have := h.1 t ht
 simpa using this
structure OpI (w : World) (t : Op13) (p : LtP) : Prop where
 ar : RIn w p.A p.c t.ar
 ids : NIn w p.B p.d t.ids
theorem OpI.below {w w' : World} {t : Op13} {p : LtP} (h : OpI w t p) (hb : Below w.heap.size w w') : OpI w' t p := ⟨h.ar.below hb, h.ids.below hb⟩
theorem OpI.fut {w : World} {t : Op13} {p : LtP} (h : OpI w t p) : Fut w (fun w' => OpI w' t p) := fun w' hb => h.below hb
theorem OpOI.few {w : World} {t : Op13} {p : LtP} (h : OpOI w t p) (h1 : t.ar.length ≤ 10) (h2 : t.ids.length ≤ 1000) : OpI w t p := ⟨⟨h.ar, by omega, h.al, h.ac⟩, ⟨h.ids, by omega, h.bl, h.bc⟩⟩
theorem cellsOp13 : Tryz.prog.cellsOf 33 = 7 := by kernel_rfl
structure OpV where
 x : Op13
 p : LtP
def opvS (L : List OpV) : List Op13 := L.map (·.x)
theorem opvS_len (L : List OpV) : (opvS L).length = L.length := by simp [opvS]
section
variable {H : Type} {enc : TypeId × Value → H} {w : World} {held : Bool}
theorem op13_of {n : Nat} {cs : List Value} {y : DataW H × List MemPlace} (hcl : cs.length = 7) (ht : DataW.trod enc Tryz.prog w 0 (fun _ => true) held n 33 cs = some y) :
  ∃ x : OpV, cs = opc x.x x.p ∧ OpOI w x.x x.p := by
 obtain ⟨ys, n', _, _, hlen, hyl, hf⟩ := DataW.trod_struct Tryz.underlying33 ht
 match cs, hcl with
 | [c0, c1, c2, c3, c4, c5, c6], _ =>
  have e3 : Tryz.prog.cellsOf 3 = 1 := by kernel_rfl
  have e4 : Tryz.prog.cellsOf 31 = 1 := by kernel_rfl
  match ys, hyl, hf with
  | [y0, y1, y2, y3, y4, y5, y6], _, hf =>
   have h0 : DataW.trod enc Tryz.prog w 0 (fun _ => true) held n' 3 [c0] = some y0 := by have := hf 0 _ rfl; simpa [e3, e4, cellsRects9] using this
   have h1 : DataW.trod enc Tryz.prog w 0 (fun _ => true) held n' 3 [c1] = some y1 := by have := hf 1 _ rfl; simpa [e3, e4, cellsRects9] using this
   have h2 : DataW.trod enc Tryz.prog w 0 (fun _ => true) held n' 3 [c2] = some y2 := by have := hf 2 _ rfl; simpa [e3, e4, cellsRects9] using this
   have h3 : DataW.trod enc Tryz.prog w 0 (fun _ => true) held n' 3 [c3] = some y3 := by have := hf 3 _ rfl; simpa [e3, e4, cellsRects9] using this
   have h4 : DataW.trod enc Tryz.prog w 0 (fun _ => true) held n' 3 [c4] = some y4 := by have := hf 4 _ rfl; simpa [e3, e4, cellsRects9] using this
   have h5 : DataW.trod enc Tryz.prog w 0 (fun _ => true) held n' 30 [c5] = some y5 := by have := hf 5 _ rfl; simpa [e3, e4, cellsRects9] using this
   have h6 : DataW.trod enc Tryz.prog w 0 (fun _ => true) held n' 31 [c6] = some y6 := by have := hf 6 _ rfl; simpa [e3, e4, cellsRects9] using this
   obtain ⟨A0, hA0, _, _⟩ := DataW.trod_int Tryz.underlying3 h0
   obtain ⟨A1, hA1, _, _⟩ := DataW.trod_int Tryz.underlying3 h1
   obtain ⟨A2, hA2, _, _⟩ := DataW.trod_int Tryz.underlying3 h2
   obtain ⟨A3, hA3, _, _⟩ := DataW.trod_int Tryz.underlying3 h3
   obtain ⟨A4, hA4, _, _⟩ := DataW.trod_int Tryz.underlying3 h4
   obtain ⟨R, c, l, hR, hr0, hr1, hr2, hr3⟩ := open_row13 h5
   obtain ⟨Q, d, k, hQ, hq0, hq1, hq2, hq3⟩ := open_irow h6
   obtain rfl : c0 = .int .i64 A0 := by simpa using hA0
   obtain rfl : c1 = .int .i64 A1 := by simpa using hA1
   obtain rfl : c2 = .int .i64 A2 := by simpa using hA2
   obtain rfl : c3 = .int .i64 A3 := by simpa using hA3
   obtain rfl : c4 = .int .i64 A4 := by simpa using hA4
   obtain rfl : c5 = .slice R l.length c := by simpa using hR
   subst hQ
   exact ⟨⟨⟨A0, A1, A2, A3, A4, l, k⟩, ⟨R, c, Q, d⟩⟩, rfl, ⟨hr1, hr2, hr3, hq1, hq2, hq3⟩⟩
theorem each_op13 {a : Addr} {n : Nat} {cs : List Value} {y : DataW H × List MemPlace} (hc : w.cells? 0 a 7 = some cs) (ht : DataW.trod enc Tryz.prog w 0 (fun _ => true) held n 33 cs = some y) :
  ∃ x : OpV, cs = opc x.x x.p ∧ (∀ j u, (opc x.x x.p)[j]? = some u → w.cell? (a.add j) = some u) ∧ OpOI w x.x x.p := by
 obtain ⟨_, hcl, hat⟩ := World.cells?_some hc
 obtain ⟨x, e, h⟩ := op13_of hcl ht
 subst e
 refine ⟨x, rfl, fun j u hu => ?_, h⟩
 have hj : j < 7 := by have := (List.getElem?_eq_some_iff.1 hu).1; simpa [opc] using this
 rw [hat j hj]; exact hu
theorem open_ops13 {v : Value} {d : DataW H} {p : List MemPlace} {r : Reach} {b0 : Nat} (hv : Value.okWide Tryz.prog w r b0 23 v) (h : DataW.Trod enc Tryz.prog w 0 (fun _ => true) held 23 v d p) :
    ∃ (A : Option Addr) (c : Nat) (S : List Op13), v = .slice A S.length c ∧ OpO w A c S := by
  obtain ⟨a0, len0, cap0, rfl⟩ := okWide_slice Tryz.underlying23 hv
  obtain ⟨fuel, hf⟩ := h
  rcases open_slice Tryz.underlying23 hf with ⟨hcs, _⟩ | ⟨a, len, cap, m, n, D, Pl, hcs, _, hl, hm, hmm, _, hi⟩
  · simp [Value.cells] at hcs
    obtain ⟨rfl, rfl, rfl⟩ := hcs
    exact ⟨none, 0, [], rfl, (fun h => absurd h (by simp)), by simp, by omega⟩
  · simp [Value.cells] at hcs
    obtain ⟨rfl, rfl, rfl⟩ := hcs
    simp at hmm
    subst hmm
    rw [cellsOp13] at hi
    obtain ⟨l, hll, hp⟩ := list_of (P := fun i (x : OpV) => (∀ j u, (opc x.x x.p)[j]? = some u → w.cell? ((a.add (i * 7)).add j) = some u) ∧ OpOI w x.x x.p) len0 (fun i hlt => by
        obtain ⟨cs', hc, ht⟩ := hi i (by omega)
        obtain ⟨x, _, h2, h3⟩ := each_op13 hc ht
        exact ⟨x, h2, h3⟩)
    refine ⟨some a, m, opvS l, by rw [opvS_len, hll], fun hn => ?_, by rw [opvS_len]; omega, by unfold maxLen at hm; omega⟩
    rw [opvS_len] at hn
    obtain ⟨b, off, spot⟩ := a
    have hc0 := (hp 0 hn).1
    have h0 := hc0 0 _ rfl
    have hspot : spot = none := by simpa [Addr.add] using World.cell?_spot h0
    subst hspot
    refine ⟨b, off, rfl, ?_, fun j hj => ?_⟩
    · have := World.block_lt_of_cell? w _ h0
      rw [add_at, add_at] at this
      exact this
    · rw [opvS_len] at hj
      obtain ⟨hc, h1⟩ := hp j hj
      have hcc : ∀ q u, (opc l[j].x l[j].p)[q]? = some u → w.cell? ⟨b, off + j * 7 + q, none⟩ = some u := fun q u hu => by
        have := hc q u hu
        rw [add_at, add_at] at this
        exact this
      have e : (opvS l)[j]'(by rw [opvS_len]; exact hj) = l[j].x := by simp [opvS]
      rw [e]
      exact ⟨l[j].p, ⟨hcc 0 _ rfl, hcc 1 _ rfl, hcc 2 _ rfl, hcc 3 _ rfl, hcc 4 _ rfl, hcc 5 _ rfl, hcc 6 _ rfl⟩, h1⟩
end
set_option maxHeartbeats 8000000 in
theorem mfewops_any (A : Option Addr) (cap : Nat) (L : List Op13) (w : World) (h : OpO w A cap L) : Calls Tryz.prog 11 #[.slice A L.length cap] w (BlIs (fewOB L) w) := by
 have HL := Lib.hid h; clear h
 have hlen := HL.out.len
 have HBAD := Lib.hid (fun k (hk : k < L.length) h => fewO_bad (L := L) hk h)
 have HGD := Lib.hid (fewO_good (L := L))
 generalize fewOB L = X at *
 go_enter Tryz.func11, Tryz.ntmps11
 go_wp2_with fail
 go_loopw [3] (fun i wr => ∃ (k : Nat), k ≤ L.length ∧ i = .int .i64 k ∧ Hid (∀ j (hj : j < L.length), j < k → L[j].ar.length ≤ 10 ∧ L[j].ids.length ≤ 8) ∧ Hid (Below w.heap.size w wr)) (fun i _ => L.length - (intOf i).toNat)
 case atStart => exact ⟨0, Nat.zero_le _, rfl, Lib.hid (fun j hj h => by omega), Lib.hid (Below.refl _ _)⟩
 case round =>
  obtain ⟨k, hk, rfl, HN, HB⟩ := hrel
  by_cases hlt : k < L.length
  ·obtain ⟨b, o, p, rfl, hb, hc, hi⟩ := HL.out.at_ hlt
   obtain ⟨x0, x1, x2, x3, x4, x5, x6⟩ := hc.below hb HB.out
   have n0 : (0 : Int) ≤ (k : Int) := by omega
   have n1 : (k : Int) < (L.length : Int) := by omega
   have HY := Lib.hid (HBAD.out k hlt)
   have HNX : Hid (L[k].ar.length ≤ 10 ∧ L[k].ids.length ≤ 8 → ∀ j (hj : j < L.length), j < k + 1 → L[j].ar.length ≤ 10 ∧ L[j].ids.length ≤ 8) := Lib.hid (fun hne j hj hjk => by
    by_cases e : j = k
    ·subst e; exact hne
    ·exact HN.out j hj (by omega))
   clear hc hi
   generalize L[k] = u at *
   generalize u.ar.length = a at *
   generalize u.ids.length = f at *
   by_cases c : 10 < a
   ·have HV := Lib.hid (HY.out (.inl c))
    have s0 : (10 : Int) < (a : Int) := by omega
    clear HY HNX
    go_wp2_with fail
    go_ret
    rw [HV.out]; exact ⟨rfl, by (repeat' first | exact Below.refl _ _ | assumption | (apply below_drewN) | (refine Below.setCell ?_ (by (try simp); (try omega)) _) | (refine Below.alloc ?_ (by (try simp); (try omega)) _) | (refine Below.trans ?_ (Below.mono (Hid.out (by assumption)) (by (try simp); (try omega)))))⟩
   ·have s0 : ¬ (10 : Int) < (a : Int) := by omega
    by_cases d : 8 < f
    ·have HV := Lib.hid (HY.out (.inr d))
     have s1 : (8 : Int) < (f : Int) := by omega
     clear HY HNX
     go_wp2_with fail
     go_ret
     rw [HV.out]; exact ⟨rfl, by (repeat' first | exact Below.refl _ _ | assumption | (apply below_drewN) | (refine Below.setCell ?_ (by (try simp); (try omega)) _) | (refine Below.alloc ?_ (by (try simp); (try omega)) _) | (refine Below.trans ?_ (Below.mono (Hid.out (by assumption)) (by (try simp); (try omega)))))⟩
    ·have s1 : ¬ (8 : Int) < (f : Int) := by omega
     have HN2 := Lib.hid (HNX.out ⟨by omega, by omega⟩)
     clear HY HNX
     go_wp2_with fail
     go_roundw
     case rel => exact ⟨k + 1, by omega, by go_num, HN2, Lib.hid (by (repeat' first | exact Below.refl _ _ | assumption | (apply below_drewN) | (refine Below.setCell ?_ (by (try simp); (try omega)) _) | (refine Below.alloc ?_ (by (try simp); (try omega)) _) | (refine Below.trans ?_ (Below.mono (Hid.out (by assumption)) (by (try simp); (try omega))))))⟩
     case measure => simp [intOf]; omega
  ·obtain rfl : k = L.length := by omega
   have HV := Lib.hid (HGD.out (fun j hj => HN.out j hj hj))
   by_cases c : L.length ≤ 12
   ·have s0 : (L.length : Int) ≤ 12 := by omega
    go_wp2_with fail
    go_ret
    rw [HV.out]; exact ⟨by simp [c], HB.out⟩
   ·have s0 : ¬ (L.length : Int) ≤ 12 := by omega
    go_wp2_with fail
    go_ret
    rw [HV.out]; exact ⟨by simp [c], HB.out⟩
end Go.Proofs.YtngddecpfhlilaaGreat
namespace Go.Proofs.YtngddecpfhlilaaGreat
open Go.RowKit
def OfR13 (x : List Rc × Int) (w : World) (e : Ending) (w' : World) : Prop := ∃ A c, e = .returned (.tuple #[.slice A x.1.length c, .int .i64 x.2]) ∧ RIn w' A c x.1 ∧ (A = none → c = 0) ∧ Below w.heap.size w w'
theorem gof13_any (A : Option Addr) (cap : Nat) (l : List Rc) (w : World) (h : RIn w A cap l) : Calls Tryz.prog 24 #[.slice A l.length cap] w (OfR13 (ofR l) w) := by
 refine (gof_any A cap l w h.row h.len).mono ?_
 rintro e w' ⟨v, rfl, ho, hb⟩
 obtain ⟨B, c, rfl, _⟩ := own_parts ho
 exact ⟨B, c, rfl, own_rin ho (by have := (ofR_regP l).2; omega), own_none ho, hb⟩
def OpAt (g : Nat) (x : Op13) (p : LtP) (w : World) : Prop := w.cell? ⟨g, 0, none⟩ = some (.int .i64 x.k) ∧ w.cell? ⟨g, 1, none⟩ = some (.int .i64 x.id) ∧ w.cell? ⟨g, 2, none⟩ = some (.int .i64 x.a) ∧ w.cell? ⟨g, 3, none⟩ = some (.int .i64 x.b) ∧ w.cell? ⟨g, 4, none⟩ = some (.int .i64 x.n) ∧ w.cell? ⟨g, 5, none⟩ = some (.slice p.A x.ar.length p.c) ∧ w.cell? ⟨g, 6, none⟩ = some (.slice p.B x.ids.length p.d) ∧ g < w.heap.size
theorem OpAt.go {g : Nat} {x : Op13} {p : LtP} {w w' : World} (h : OpAt g x p w) (hb : Below w.heap.size w w') : OpAt g x p w' := by
 obtain ⟨h0, h1, h2, h3, h4, h5, h6, hl⟩ := h
 have wc := fun k => hb.cell (p := ⟨g, k, none⟩) hl
 exact ⟨(wc _).trans h0, (wc _).trans h1, (wc _).trans h2, (wc _).trans h3, (wc _).trans h4, (wc _).trans h5, (wc _).trans h6, Nat.lt_of_lt_of_le hl hb.size⟩
theorem OpAt.fut {g : Nat} {x : Op13} {p : LtP} {w : World} (h : OpAt g x p w) : Fut w (OpAt g x p) := fun w' hb => h.go hb
theorem OpAt.new (w : World) (x : Op13) (p : LtP) (k : Nat) (hk : k = w.heap.size) : OpAt k x p (w.alloc (.cells #[.int .i64 x.k, .int .i64 x.id, .int .i64 x.a, .int .i64 x.b, .int .i64 x.n, .slice p.A x.ar.length p.c, .slice p.B x.ids.length p.d] 33)) := by
 subst hk
 have h := heap_alloc_new w (.cells #[.int .i64 x.k, .int .i64 x.id, .int .i64 x.a, .int .i64 x.b, .int .i64 x.n, .slice p.A x.ar.length p.c, .slice p.B x.ids.length p.d] 33)
 exact ⟨by rw [Lib.cell_of_heap h]; rfl, by rw [Lib.cell_of_heap h]; rfl, by rw [Lib.cell_of_heap h]; rfl, by rw [Lib.cell_of_heap h]; rfl, by rw [Lib.cell_of_heap h]; rfl, by rw [Lib.cell_of_heap h]; rfl, by rw [Lib.cell_of_heap h]; rfl, by rw [World.size_alloc]; omega⟩
set_option maxHeartbeats 16000000 in
theorem do_any (A : Option Addr) (cap : Nat) (L : List Lt) (o : Op13) (p : LtP) (w : World) (h : LtIn w A cap L) (ho : OpI w o p) (hids : (idsL L).length ≤ 274877906944) :
  Calls Tryz.prog 12 #[.slice A L.length cap, opv o p] w (OpR (doM L o) w) := by
 have HOF := Lib.hid (gof13_any p.A p.c o.ar w ho.ar)
 have HAD := Lib.hid (fun w' A' c' (hb : Below w.heap.size w w') (hr : RIn w' A' c' (ofR o.ar).1) (hn : A' = none → c' = 0) => show Calls Tryz.prog 39 #[.slice A L.length cap, .agg #[.int .i64 o.id, .int .i64 o.n, .slice A' (ofR o.ar).1.length c', .slice none 0 0]] w' (OpR (addM landB lotB L ⟨o.id, o.n, (ofR o.ar).1, []⟩) w') from
  add13_any A cap L ⟨o.id, o.n, (ofR o.ar).1, []⟩ ⟨A', c', none, 0⟩ w' (h.below hb) ⟨hr, NIn.nil _, hn, fun _ => rfl⟩)
 have HSP := Lib.hid (fun w' A' c' (hb : Below w.heap.size w w') (hr : RIn w' A' c' (ofR o.ar).1) => split13_any A cap L o.id A' c' (ofR o.ar).1 o.a o.b w' (h.below hb) hr)
 have HJN := Lib.hid (fun w' (hb : Below w.heap.size w w') => join13_any A cap L p.B p.d o.ids o.id w' (h.below hb) (ho.ids.below hb) hids)
 have HTR := Lib.hid (fun w' (hb : Below w.heap.size w w') => trans13_any A cap L o.id o.n w' (h.below hb))
 have HLL := Lib.hid (fun w' (hb : Below w.heap.size w w') => h.below hb)
 have HE : Hid (doM L o = if (doR L o).2 = 0 then ((doR L o).1, 0) else (L, (doR L o).2)) := Lib.hid rfl
 have HM0 : Hid (o.k = 0 → doR L o = addM landB lotB L ⟨o.id, o.n, (ofR o.ar).1, []⟩) := Lib.hid (fun c => by unfold doR; rw [if_pos c])
 have HM1 : Hid (o.k = 1 → doR L o = splitM landB rgB oneB L o.id (ofR o.ar).1 o.a o.b) := Lib.hid (fun c => by unfold doR; rw [if_neg (by omega), if_pos c])
 have HM2 : Hid (o.k = 2 → doR L o = joinG L (sortS o.ids) o.ids.length o.id) := Lib.hid (fun c => by unfold doR; rw [if_neg (by omega), if_neg (by omega), if_pos c])
 have HM3 : Hid (o.k = 3 → doR L o = transM landB L o.id o.n) := Lib.hid (fun c => by unfold doR; rw [if_neg (by omega), if_neg (by omega), if_neg (by omega), if_pos c])
 have HM4 : Hid (o.k ≠ 0 → o.k ≠ 1 → o.k ≠ 2 → o.k ≠ 3 → doR L o = (L, 0)) := Lib.hid (fun c0 c1 c2 c3 => by unfold doR; rw [if_neg c0, if_neg c1, if_neg c2, if_neg c3])
 generalize doM L o = Y at *
 generalize doR L o = X at *
 clear h hids
 have HO := Lib.hid (OpAt.new w o p _ rfl)
 have HOF2 := Lib.hid (fun w' (hb : Below w.heap.size w w') => gof13_any p.A p.c o.ar w' (ho.ar.below hb))
 have HOF := HOF2; clear HOF2 ho
 have HB0 := Lib.hid ((Below.refl w.heap.size w).alloc (Nat.le_refl _) (.cells #[.int .i64 o.k, .int .i64 o.id, .int .i64 o.a, .int .i64 o.b, .int .i64 o.n, .slice p.A o.ar.length p.c, .slice p.B o.ids.length p.d] 33))
 obtain ⟨k, id, a, b, n, ar, ids⟩ := o
 obtain ⟨PA, PC, PB, PD⟩ := p
 unfold opv
 have HOX := Lib.hid (fun w' g (h : OpAt g ⟨k, id, a, b, n, ar, ids⟩ ⟨PA, PC, PB, PD⟩ w') => show w'.cell? ⟨g, 0, none⟩ = some (.int .i64 k) ∧ w'.cell? ⟨g, 1, none⟩ = some (.int .i64 id) ∧ w'.cell? ⟨g, 2, none⟩ = some (.int .i64 a) ∧ w'.cell? ⟨g, 3, none⟩ = some (.int .i64 b) ∧ w'.cell? ⟨g, 4, none⟩ = some (.int .i64 n) ∧ w'.cell? ⟨g, 5, none⟩ = some (.slice PA ar.length PC) ∧ w'.cell? ⟨g, 6, none⟩ = some (.slice PB ids.length PD) ∧ g < w'.heap.size from h)
 simp only at HOF HAD HSP HJN HTR HM0 HM1 HM2 HM3 HM4 HB0 ⊢
 have x5 := (HOX.out _ _ HO.out).2.2.2.2.2.1
 generalize hR : (ofR ar).1 = R at *
 generalize hRc : (ofR ar).2 = rc at *
 have HRR : Hid (ofR ar = (R, rc)) := Lib.hid (by rw [← hR, ← hRc])
 clear hR hRc
 rw [HRR.out] at HOF
 clear HRR
 go_enter Tryz.func12, Tryz.ntmps12
 go_wp2_with fail
 refine (HOF.out _ HB0.out).mono ?_
 rintro e w1 ⟨A1, c1, rfl, hr1, hn1, hb1⟩
 have HB1 := Lib.hid (HB0.out.trans (hb1.mono HB0.out.size))
 obtain ⟨y0, y1, y2, y3, y4, y5, y6, yl⟩ := HOX.out _ _ (HO.out.go hb1)
 have HR1 := Lib.hid hr1
 have HN1 := Lib.hid hn1
 clear hb1 hr1 hn1 HOF HOX HO x5 HB0
 by_cases c0 : k = 0
 ·subst c0
  have HX := Lib.hid (HM0.out rfl)
  clear HM0 HM1 HM2 HM3 HM4
  go_wp2_with fail
  refine (HAD.out _ _ _ HB1.out HR1.out HN1.out).mono ?_
  rw [← HX.out]
  rintro e w2 ⟨A2, c2, rfl, hr2, hb2⟩
  have HB2 := Lib.hid (HB1.out.trans (hb2.mono HB1.out.size))
  have HR2 := Lib.hid hr2
  clear hb2 hr2 HAD HSP HJN HTR HX
  obtain ⟨T, c⟩ := X
  simp only at HE HR2 ⊢
  have hT := HR2.out.len
  by_cases hc : c = 0
  ·have HV : Hid (Y = (T, 0)) := Lib.hid (by rw [HE.out, if_pos hc])
   subst hc
   clear HE
   go_wp2_with fail
   go_ret2
   rw [HV.out]; exact ⟨_, _, rfl, HR2.out, HB2.out⟩
  ·have HV : Hid (Y = (L, c)) := Lib.hid (by rw [HE.out, if_neg hc])
   have g1 : (c != (0 : Int)) = true := by simpa using hc
   have HL2 := Lib.hid (HLL.out _ HB2.out)
   clear HE hc HLL
   go_wp2_with fail
   go_ret2
   rw [HV.out]; exact ⟨_, _, rfl, HL2.out, HB2.out⟩
 ·by_cases c1 : k = 1
  ·have f0 : (k == (0 : Int)) = false := by simpa using c0
   subst c1
   have HX := Lib.hid (HM1.out rfl)
   clear HM0 HM1 HM2 HM3 HM4
   clear c0
   go_wp2_with fail
   refine (HSP.out _ _ _ HB1.out HR1.out).mono ?_
   rw [← HX.out]
   rintro e w2 ⟨A2, c2, rfl, hr2, hb2⟩
   have HB2 := Lib.hid (HB1.out.trans (hb2.mono HB1.out.size))
   have HR2 := Lib.hid hr2
   clear hb2 hr2 HAD HSP HJN HTR HX
   obtain ⟨T, c⟩ := X
   simp only at HE HR2 ⊢
   have hT := HR2.out.len
   by_cases hc : c = 0
   ·have HV : Hid (Y = (T, 0)) := Lib.hid (by rw [HE.out, if_pos hc])
    subst hc
    clear HE
    go_wp2_with fail
    go_ret2
    rw [HV.out]; exact ⟨_, _, rfl, HR2.out, HB2.out⟩
   ·have HV : Hid (Y = (L, c)) := Lib.hid (by rw [HE.out, if_neg hc])
    have g1 : (c != (0 : Int)) = true := by simpa using hc
    have HL2 := Lib.hid (HLL.out _ HB2.out)
    clear HE hc HLL
    go_wp2_with fail
    go_ret2
    rw [HV.out]; exact ⟨_, _, rfl, HL2.out, HB2.out⟩
  ·by_cases c2 : k = 2
   ·have f0 : (k == (0 : Int)) = false := by simpa using c0
    have f1 : (k == (1 : Int)) = false := by simpa using c1
    subst c2
    have HX := Lib.hid (HM2.out rfl)
    clear HM0 HM1 HM2 HM3 HM4
    clear c0
    clear c1
    go_wp2_with fail
    refine (HJN.out _ HB1.out).mono ?_
    rw [← HX.out]
    rintro e w2 ⟨A2, c2, rfl, hr2, hb2⟩
    have HB2 := Lib.hid (HB1.out.trans (hb2.mono HB1.out.size))
    have HR2 := Lib.hid hr2
    clear hb2 hr2 HAD HSP HJN HTR HX
    obtain ⟨T, c⟩ := X
    simp only at HE HR2 ⊢
    have hT := HR2.out.len
    by_cases hc : c = 0
    ·have HV : Hid (Y = (T, 0)) := Lib.hid (by rw [HE.out, if_pos hc])
     subst hc
     clear HE
     go_wp2_with fail
     go_ret2
     rw [HV.out]; exact ⟨_, _, rfl, HR2.out, HB2.out⟩
    ·have HV : Hid (Y = (L, c)) := Lib.hid (by rw [HE.out, if_neg hc])
     have g1 : (c != (0 : Int)) = true := by simpa using hc
     have HL2 := Lib.hid (HLL.out _ HB2.out)
     clear HE hc HLL
     go_wp2_with fail
     go_ret2
     rw [HV.out]; exact ⟨_, _, rfl, HL2.out, HB2.out⟩
   ·by_cases c3 : k = 3
    ·have f0 : (k == (0 : Int)) = false := by simpa using c0
     have f1 : (k == (1 : Int)) = false := by simpa using c1
     have f2 : (k == (2 : Int)) = false := by simpa using c2
     subst c3
     have HX := Lib.hid (HM3.out rfl)
     clear HM0 HM1 HM2 HM3 HM4
     clear c0
     clear c1
     clear c2
     go_wp2_with fail
     refine (HTR.out _ HB1.out).mono ?_
     rw [← HX.out]
     rintro e w2 ⟨A2, c2, rfl, hr2, hb2⟩
     have HB2 := Lib.hid (HB1.out.trans (hb2.mono HB1.out.size))
     have HR2 := Lib.hid hr2
     clear hb2 hr2 HAD HSP HJN HTR HX
     obtain ⟨T, c⟩ := X
     simp only at HE HR2 ⊢
     have hT := HR2.out.len
     by_cases hc : c = 0
     ·have HV : Hid (Y = (T, 0)) := Lib.hid (by rw [HE.out, if_pos hc])
      subst hc
      clear HE
      go_wp2_with fail
      go_ret2
      rw [HV.out]; exact ⟨_, _, rfl, HR2.out, HB2.out⟩
     ·have HV : Hid (Y = (L, c)) := Lib.hid (by rw [HE.out, if_neg hc])
      have g1 : (c != (0 : Int)) = true := by simpa using hc
      have HL2 := Lib.hid (HLL.out _ HB2.out)
      clear HE hc HLL
      go_wp2_with fail
      go_ret2
      rw [HV.out]; exact ⟨_, _, rfl, HL2.out, HB2.out⟩
    ·have f0 : (k == (0 : Int)) = false := by simpa using c0
     have f1 : (k == (1 : Int)) = false := by simpa using c1
     have f2 : (k == (2 : Int)) = false := by simpa using c2
     have f3 : (k == (3 : Int)) = false := by simpa using c3
     have HX := Lib.hid (HM4.out c0 c1 c2 c3)
     clear HM0 HM1 HM2 HM3 HM4
     clear c0
     clear c1
     clear c2
     clear c3
     go_wp2_with fail
     have HV : Hid (Y = (L, 0)) := Lib.hid (by rw [HE.out, HX.out, if_pos rfl])
     have HL2 := Lib.hid (HLL.out _ HB1.out)
     go_ret2
     rw [HV.out]; exact ⟨_, _, rfl, HL2.out, HB1.out⟩
end Go.Proofs.YtngddecpfhlilaaGreat
