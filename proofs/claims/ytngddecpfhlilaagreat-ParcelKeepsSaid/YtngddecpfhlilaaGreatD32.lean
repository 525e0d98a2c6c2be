/-
  Contracts of layer 13 (19): Add, Transfer.
  Contracts of layer 13 (20): Transfer.
-/
import Derived.Test.YtngddecpfhlilaaGreatD31
import Derived.Test.YtngddecpfhlilaaGreatD28
import Derived.Test.YtngddecpfhlilaaGreatD09
import Derived.Test.YtngddecpfhlilaaGreatD18
set_option linter.unusedVariables false
set_option maxRecDepth 100000
namespace Go.Proofs.YtngddecpfhlilaaGreat
open Go.RowKit
def OpR (x : List Lt × Int) (w : World) (e : Ending) (w' : World) : Prop := ∃ A c, e = .returned (.tuple #[.slice A x.1.length c, .int .i64 x.2]) ∧ LtIn w' A c x.1 ∧ Below w.heap.size w w'
theorem OpR.err {w w' : World} (k : Int) (hb : Below w.heap.size w w') : OpR ([], k) w (.returned (.tuple #[.slice none 0 0, .int .i64 k])) w' := ⟨none, 0, rfl, LtIn.nil _, hb⟩
theorem asc_pw : ∀ {l : List Lt}, AscL l ↔ l.Pairwise (fun t u => t.id < u.id)
 | [] => by simp [AscL]
 | t :: l => by rw [List.pairwise_cons, ← asc_pw]; rfl
theorem dif_pw : ∀ {l : List Lt}, DifL l → l.Pairwise (fun t u => t.id ≠ u.id)
 | [], _ => List.Pairwise.nil
 | t :: l, h => List.pairwise_cons.2 ⟨h.1, dif_pw h.2⟩
theorem ch_eq {L N R : List Lt} {G : List Int} (hL : AscL L) (hd : DifL N) (hn : ∀ t ∈ N, ∀ u ∈ L, u.id ∉ G → u.id ≠ t.id) (hp : R.Perm (wthL G L ++ N)) (hs : R.Pairwise (fun t u => t.id ≤ u.id)) : R = chL G N L := by
 have h1 : (wthL G L ++ N).Pairwise (fun t u => t.id ≠ u.id) := by
  rw [List.pairwise_append]
  refine ⟨(asc_pw.1 (asc_filter _ hL)).imp (fun h => by omega), dif_pw hd, fun u hu t ht => ?_⟩
  obtain ⟨h2, h3⟩ := mem_wthL.1 hu
  exact hn t ht u h2 h3
 have h2 : R.Pairwise (fun t u => t.id ≠ u.id) := (hp.pairwise_iff (fun {a b} h => Ne.symm h)).2 h1
 have h3 : AscL R := asc_pw.2 ((hs.and h2).imp (fun h => by omega))
 refine ascL_eq h3 (asc_chL hL hd hn) (fun t => ?_)
 rw [hp.mem_iff, List.mem_append, mem_chL, mem_wthL]
 exact Or.comm
theorem mtB_comm (a b : List Rc) : mtB a b = mtB b a := by
 have key : ∀ a b : List Rc, mtB a b = true → mtB b a = true := fun a b h => by
  unfold mtB at h ⊢
  obtain ⟨r, hr, h⟩ := List.any_eq_true.1 h
  obtain ⟨q, hq, h⟩ := List.any_eq_true.1 h
  refine List.any_eq_true.2 ⟨q, hq, List.any_eq_true.2 ⟨r, hr, ?_⟩⟩
  simp only [Bool.and_eq_true, decide_eq_true_eq] at h ⊢
  omega
 cases h : mtB a b
 ·cases h2 : mtB b a
  ·rfl
  ·rw [key b a h2] at h; exact absurd h (by simp)
 ·exact (key a b h).symm
theorem LtIn.one {w : World} {b : Nat} {t : Lt} {p : LtP} (h : LtAt w b t p) (hi : LtI w t p) : LtIn w (some ⟨b, 0, none⟩) 1 [t] :=
 ⟨fun _ => ⟨b, 0, rfl, h.lt, fun j hj => by
  obtain rfl : j = 0 := by simp at hj; exact hj
  exact ⟨p, by simpa using h.c, hi⟩⟩, by simp, by simp, by omega⟩
theorem eg_ad : ∀ args w, (callFunc 93 args).run Tryz.prog w = .ok (.enter 93 args) w := enters_of Tryz.func93 (by kernel_rfl) rfl
theorem addC_any (t : Lt) (p : LtP) (u : Lt) (q : LtP) (pb : Nat) (w : World) (h : LtI w t p) (hu : LtI w u q) (hp : LtAt w pb t p) :
  Calls Tryz.prog 93 #[lvl u q, .pointer (some ⟨pb, 0, none⟩)] w (BlIs (mtB t.ar u.ar) w) := by
 have HM := Lib.hid (fun w' (hb : Below w.heap.size w w') => meet13_any q.A q.c p.A p.c u.ar t.ar w' (hu.ar.below hb) (h.ar.below hb))
 rw [mtB_comm]
 have hpl := hp.lt
 obtain ⟨x0, x1, x2, x3⟩ := hp.c
 simp only [Nat.zero_add] at x1 x2 x3
 clear h hu hp
 generalize mtB u.ar t.ar = z at *
 obtain ⟨id, ow, ar, fr⟩ := u
 obtain ⟨QA, QC, QB, QD⟩ := q
 obtain ⟨id2, ow2, ar2, fr2⟩ := t
 obtain ⟨PA, PC, PB, PD⟩ := p
 unfold lvl
 simp only at HM x0 x1 x2 x3 ⊢
 go_enter Tryz.func93, Tryz.ntmps93
 go_wp2_with fail
 refine (HM.out _ (by (repeat' first | exact Below.refl _ _ | assumption | (apply below_drewN) | (refine Below.setCell ?_ (by (try simp); (try omega)) _) | (refine Below.alloc ?_ (by (try simp); (try omega)) _) | (refine Below.trans ?_ (Below.mono (Hid.out (by assumption)) (by (try simp); (try omega))))))).mono ?_
 rintro e w1 ⟨rfl, hb⟩
 have HB := Lib.hid hb; clear hb
 go_wp2_with fail
 go_ret
 exact ⟨rfl, by (repeat' first | exact Below.refl _ _ | assumption | (apply below_drewN) | (refine Below.setCell ?_ (by (try simp); (try omega)) _) | (refine Below.alloc ?_ (by (try simp); (try omega)) _) | (refine Below.trans ?_ (Below.mono (Hid.out (by assumption)) (by (try simp); (try omega)))))⟩
set_option maxHeartbeats 16000000 in
theorem add13_any (A : Option Addr) (cap : Nat) (L : List Lt) (t : Lt) (p : LtP) (w : World) (h : LtIn w A cap L) (hi : LtI w t p) :
  Calls Tryz.prog 39 #[.slice A L.length cap, lvl t p] w (OpR (addM landB lotB L t) w) := by
 have HR := Lib.hid (fun w' (hb : Below w.heap.size w w') => right13_any A cap L w' (h.below hb))
 have HLT := Lib.hid (fun w' (hb : Below w.heap.size w w') => lot_any t p w' (hi.below hb))
 have HTK := Lib.hid (fun w' (hb : Below w.heap.size w w') => taken_any A cap L t.id w' (h.below hb))
 have HMT : Hid (∀ w' pb, Below w.heap.size w w' → LtAt w' pb t p → Calls Tryz.prog 82 #[.slice A L.length cap, .func (.func 93) #[] #[.pointer (some ⟨pb, 0, none⟩)]] w' (BlIs (L.any fun u => mtB t.ar u.ar) w')) := Lib.hid (fun w' pb hb h1 => lcf_any 93 eg_ad #[.pointer (some ⟨pb, 0, none⟩)] (fun u => mtB t.ar u.ar) A cap L w' (h.below hb) (fun j hj w2 hb2 q hq => addC_any t p L[j] q pb w2 ((hi.below hb).below hb2) hq (h1.below hb2)))
 have HCH : Hid (L.length ≤ 20000 → ∀ w' pb, Below w.heap.size w w' → LtAt w' pb t p → Calls Tryz.prog 80 #[.slice A L.length cap, .slice none 0 0, .slice (some ⟨pb, 0, none⟩) 1 1] w' (ChIs [] [t] L w')) := Lib.hid (fun hl w' pb hb h1 => changed_any A cap L [] none 0 [t] (some ⟨pb, 0, none⟩) 1 w' (h.below hb) (NIn.nil _) trivial (LtIn.one h1 (hi.below hb)) (by omega) (by simp))
 have HEQ : Hid (landB L = true → takB L t.id = false → ∀ R, R.Perm (wthL [] L ++ [t]) → R.Pairwise (fun t u => t.id ≤ u.id) → R = chL [] [t] L) := Lib.hid (fun h1 h2 R hp hs => ch_eq ((landB_iff L).1 h1).asc ⟨(fun u hu => nomatch hu), trivial⟩ (fun v hv u hu _ c => by
  obtain rfl : v = t := by simpa using hv
  have : takB L v.id = true := (takB_iff L v.id).2 ⟨u, hu, .inl c⟩
  rw [h2] at this; exact absurd this (by simp)) hp hs)
 have HLN : Hid (landB L = true → L.length ≤ 20000) := Lib.hid (fun h1 => ((landB_iff L).1 h1).len)
 have hlen := h.len
 have hbn := hi.bn
 clear h hi
 have HX : Hid (addM landB lotB L t = if (landB L && lotB t && decide (t.fr.length = 0)) = false then ([], 1) else if takB L t.id = true then ([], 5) else if (L.any fun u => mtB t.ar u.ar) = true then ([], 11) else if 20000 ≤ L.length then ([], 6) else (chL [] [t] L, 0)) := Lib.hid (by unfold addM; rw [show t.fr.isEmpty = decide (t.fr.length = 0) by cases t.fr <;> simp])
 have HAT : Hid (LtAt (w.alloc (.cells #[.int .i64 t.id, .int .i64 t.ow, .slice p.A t.ar.length p.c, .slice p.B t.fr.length p.d] 40)) w.heap.size t p) := Lib.hid (LtAt.new w t p _ rfl rfl rfl)
 have HCC : Hid (∀ w', LtAt w' w.heap.size t p → w'.cell? ⟨w.heap.size, 0, none⟩ = some (.int .i64 t.id) ∧ w'.cell? ⟨w.heap.size, 1, none⟩ = some (.int .i64 t.ow) ∧ w'.cell? ⟨w.heap.size, 2, none⟩ = some (.slice p.A t.ar.length p.c) ∧ w'.cell? ⟨w.heap.size, 3, none⟩ = some (.slice p.B t.fr.length p.d) ∧ w.heap.size < w'.heap.size) := Lib.hid (fun w' h => by
  obtain ⟨c0, c1, c2, c3⟩ := h.c
  simp only [Nat.zero_add] at c1 c2 c3
  exact ⟨c0, c1, c2, c3, h.lt⟩)
 have HFIN : Hid (landB L = true → takB L t.id = false → ∀ w' e w2, Below w.heap.size w w' → ChIs [] [t] L w' e w2 → ∃ A c, e = .returned (.slice A (chL [] [t] L).length c) ∧ LtIn w2 A c (chL [] [t] L) ∧ Below w.heap.size w w2) := Lib.hid (fun h1 h2 w' e w2 hb hc => by
  obtain ⟨A2, c2, R, rfl, h3, hp, hs, hb2⟩ := hc
  have e := HEQ.out h1 h2 R hp hs
  subst e
  exact ⟨A2, c2, rfl, h3, hb.trans (hb2.mono hb.size)⟩)
 have HNEW : Hid (∀ w', LtAt w' w.heap.size t p → ∀ k, k = w'.heap.size → LtAt (w'.alloc (.cells #[.int .i64 t.id, .int .i64 t.ow, .slice p.A t.ar.length p.c, .slice p.B t.fr.length p.d] 40)) k t p) := Lib.hid (fun w' _ k hk => LtAt.new w' t p k hk rfl rfl)
 clear HEQ
 generalize addM landB lotB L t = X at *
 generalize landB L = lb at *
 generalize lotB t = lo at *
 generalize takB L t.id = tk at *
 generalize (L.any fun u => mtB t.ar u.ar) = mt at *
 generalize hCR : chL [] [t] L = CR at *
 obtain ⟨id, ow, ar, fr⟩ := t
 obtain ⟨PA, PC, PB, PD⟩ := p
 unfold lvl at HLT ⊢
 simp only at HLT HTK HAT HCC HX HNEW hbn ⊢
 have HAB := Lib.hid (fun w' (hb : Below (w.alloc (.cells #[.int .i64 id, .int .i64 ow, .slice PA ar.length PC, .slice PB fr.length PD] 40)).heap.size (w.alloc (.cells #[.int .i64 id, .int .i64 ow, .slice PA ar.length PC, .slice PB fr.length PD] 40)) w') => HAT.out.below hb)
 clear hCR
 cases lb
 ·have HV : Hid (X = ([], 1)) := Lib.hid (by rw [HX.out]; simp)
  clear HX HFIN HLN HCH
  go_enter Tryz.func39, Tryz.ntmps39
  go_wp2_with fail
  refine (HR.out _ (by (repeat' first | exact Below.refl _ _ | assumption | (apply below_drewN) | (refine Below.setCell ?_ (by (try simp); (try omega)) _) | (refine Below.alloc ?_ (by (try simp); (try omega)) _) | (refine Below.trans ?_ (Below.mono (Hid.out (by assumption)) (by (try simp); (try omega))))))).mono ?_
  rintro e w1 ⟨rfl, hb1⟩
  have HB1 := Lib.hid (((Below.refl w.heap.size w).alloc (Nat.le_refl _) _).trans (hb1.mono (by simp))); clear hb1
  go_wp2_with fail
  go_ret2
  rw [HV.out]; exact OpR.err 1 (by first | exact HB2.out | exact HB1.out)
 ·go_enter Tryz.func39, Tryz.ntmps39
  go_wp2_with fail
  refine (HR.out _ (by (repeat' first | exact Below.refl _ _ | assumption | (apply below_drewN) | (refine Below.setCell ?_ (by (try simp); (try omega)) _) | (refine Below.alloc ?_ (by (try simp); (try omega)) _) | (refine Below.trans ?_ (Below.mono (Hid.out (by assumption)) (by (try simp); (try omega))))))).mono ?_
  rintro e w1 ⟨rfl, hb1⟩
  have HA1 := Lib.hid (HAB.out _ hb1)
  have HB1 := Lib.hid (((Below.refl w.heap.size w).alloc (Nat.le_refl _) _).trans (hb1.mono (by simp))); clear hb1
  obtain ⟨y0, y1, y2, y3, yl⟩ := HCC.out _ HA1.out
  go_wp2_with fail
  refine (HLT.out _ HB1.out).mono ?_
  rintro e w2 ⟨rfl, hb2⟩
  have HA2 := Lib.hid (HA1.out.below hb2)
  have HB2 := Lib.hid (HB1.out.trans (hb2.mono HB1.out.size)); clear hb2
  clear y0 y1 y2 y3 yl
  obtain ⟨y0, y1, y2, y3, yl⟩ := HCC.out _ HA2.out
  cases lo
  ·have HV : Hid (X = ([], 1)) := Lib.hid (by rw [HX.out]; simp)
   clear HX HFIN HLN HCH
   go_wp2_with fail
   go_ret2
   rw [HV.out]; exact OpR.err 1 (by first | exact HB2.out | exact HB1.out)
  ·by_cases hf : fr.length = 0
   ·have s0 : ¬ (0 : Int) < (fr.length : Int) := by omega
    cases tk
    ·have HF := Lib.hid hf; clear hf
     go_wp2_with fail
     refine (HTK.out _ HB2.out).mono ?_
     rintro e w3 ⟨rfl, hb3⟩
     have HA3 := Lib.hid (HA2.out.below hb3)
     have HB3 := Lib.hid (HB2.out.trans (hb3.mono HB2.out.size)); clear hb3
     clear y0 y1 y2 y3 yl
     go_wp2_with fail
     refine (HMT.out _ _ HB3.out HA3.out).mono ?_
     rintro e w4 ⟨rfl, hb4⟩
     have HA4 := Lib.hid (HA3.out.below hb4)
     have HB4 := Lib.hid (HB3.out.trans (hb4.mono HB3.out.size)); clear hb4
     obtain ⟨y0, y1, y2, y3, yl⟩ := HCC.out _ HA4.out
     cases mt
     ·have hl2 := HLN.out trivial
      by_cases hl : L.length = 20000
      ·have HV : Hid (X = ([], 6)) := Lib.hid (by rw [HX.out]; simp [HF.out, hl])
       have z0 : ((L.length : Int) == 20000) = true := by simp; omega
       have HL := Lib.hid hl; clear hl hl2
       clear HX HFIN HLN HCH
       go_wp2_with fail
       go_ret2
       rw [HV.out]; exact OpR.err 6 HB4.out
      ·have HV : Hid (X = (CR, 0)) := Lib.hid (by rw [HX.out]; simp [HF.out]; omega)
       have z0 : ((L.length : Int) == 20000) = false := by simp; omega
       have HCH2 := Lib.hid (HCH.out hl2)
       clear HX HLN HCH hl hl2
       go_wp2_with fail
       have HB5 : Hid (Below w.heap.size w (w4.alloc (.cells #[.int .i64 id, .int .i64 ow, .slice PA ar.length PC, .slice PB fr.length PD] 40))) := Lib.hid (HB4.out.trans (((Below.refl _ w4).alloc (Nat.le_refl _) _).mono HB4.out.size))
       refine (HCH2.out _ _ HB5.out (HNEW.out _ HA4.out _ rfl)).mono ?_
       rintro e w6 hc
       obtain ⟨A6, c6, rfl, h6, hb6⟩ := HFIN.out trivial trivial _ _ _ HB5.out hc
       have HF6 : Hid (OpR (CR, 0) w (.returned (.tuple #[.slice A6 CR.length c6, .int .i64 0])) w6) := Lib.hid ⟨A6, c6, rfl, h6, hb6⟩
       clear hc h6 hb6
       go_wp2_with fail
       go_ret2
       rw [HV.out]; exact HF6.out
     ·have HV : Hid (X = ([], 11)) := Lib.hid (by rw [HX.out]; simp [HF.out])
      clear HX HFIN HLN HCH
      go_wp2_with fail
      go_ret2
      rw [HV.out]; exact OpR.err 11 HB4.out
    ·have HV : Hid (X = ([], 5)) := Lib.hid (by rw [HX.out]; simp [hf])
     clear HX HFIN HLN HCH
     have HF := Lib.hid hf; clear hf
     go_wp2_with fail
     refine (HTK.out _ HB2.out).mono ?_
     rintro e w3 ⟨rfl, hb3⟩
     have HB3 := Lib.hid (HB2.out.trans (hb3.mono HB2.out.size)); clear hb3
     go_wp2_with fail
     go_ret2
     rw [HV.out]; exact OpR.err 5 HB3.out
   ·have s0 : (0 : Int) < (fr.length : Int) := by omega
    have HV : Hid (X = ([], 1)) := Lib.hid (by rw [HX.out]; simp [hf])
    clear HX HFIN HLN HCH
    have HF := Lib.hid hf; clear hf
    go_wp2_with fail
    go_ret2
    rw [HV.out]; exact OpR.err 1 (by first | exact HB2.out | exact HB1.out)
end Go.Proofs.YtngddecpfhlilaaGreat
namespace Go.Proofs.YtngddecpfhlilaaGreat
open Go.RowKit
def IxR (l : List Lt) (x : Int) (w : World) (e : Ending) (w' : World) : Prop := ∃ (i : Nat) (b : Bool), e = .returned (.tuple #[.int .i64 (i : Int), .bool b]) ∧ (b = true → ∃ h : i < l.length, findL l x = some l[i] ∧ l[i].id = x) ∧ (b = false → findL l x = none) ∧ Below w.heap.size w w'
theorem ix_any (A : Option Addr) (cap : Nat) (l : List Lt) (x : Int) (w : World) (h : LtIn w A cap l) (ha : AscL l) : Calls Tryz.prog 75 #[.slice A l.length cap, .int .i64 x] w (IxR l x w) :=
 (index_any A cap l x w h ha).mono (fun e w' ⟨i, he, hp, hb⟩ => by
  refine ⟨i, isIn l x, he, fun h1 => ?_, fun h1 => ?_, hb⟩
  ·obtain ⟨h2, h3⟩ := (hp.mem (fun i j hij hj => ascL_at ha hij hj)).1 h1
   refine ⟨h2, ?_, h3⟩
   have := find_of ha (List.getElem_mem h2)
   rw [h3] at this
   exact this
  ·unfold findL
   refine List.find?_eq_none.2 (fun t ht c => ?_)
   have : isIn l x = true := List.any_eq_true.2 ⟨t, ht, c⟩
   rw [h1] at this
   exact absurd this (by simp))
set_option maxHeartbeats 16000000 in
theorem trans13_any (A : Option Addr) (cap : Nat) (L : List Lt) (k v : Int) (w : World) (h : LtIn w A cap L) :
  Calls Tryz.prog 41 #[.slice A L.length cap, .int .i64 k, .int .i64 v] w (OpR (transM landB L k v) w) := by
 have HR := Lib.hid (fun w' (hb : Below w.heap.size w w') => right13_any A cap L w' (h.below hb))
 have HOW := Lib.hid (fun w' => own_any v w')
 have HIX := Lib.hid (fun (h1 : landB L = true) w' (hb : Below w.heap.size w w') => ix_any A cap L k w' (h.below hb) ((landB_iff L).1 h1).asc)
 have HCH : Hid (landB L = true → ∀ t, findL L k = some t → ∀ w' g pb (p : LtP), Below w.heap.size w w' → w'.heap[g]? = some (.cells #[.int .i64 k] 3 (0, 0)) → LtAt w' pb (ownT t v) p → LtI w' t p → Calls Tryz.prog 80 #[.slice A L.length cap, .slice (some ⟨g, 0, none⟩) 1 1, .slice (some ⟨pb, 0, none⟩) 1 1] w' (fun e w2 => ∃ A c, e = .returned (.slice A (chL [k] [ownT t v] L).length c) ∧ LtIn w2 A c (chL [k] [ownT t v] L) ∧ Below w.heap.size w w2)) := Lib.hid (fun h1 t ht w' g pb p hb hg h2 hi => by
  have hL := (landB_iff L).1 h1
  have hm := find_mem ht
  refine (changed_any A cap L [k] (some ⟨g, 0, none⟩) 1 [ownT t v] (some ⟨pb, 0, none⟩) 1 w' (h.below hb) ⟨fun _ => ⟨g, 0, rfl, (Array.getElem?_eq_some_iff.1 hg).1, fun j hj => ?_⟩, by simp, by simp, by omega⟩ trivial (LtIn.one h2 ⟨hi.ar, hi.fr, hi.an, hi.bn⟩) (by have := hL.len; omega) (by simp)).mono (fun e w2 hc => ?_)
  ·obtain rfl : j = 0 := by simp at hj; exact hj
   rw [Lib.cell_of_heap hg]; rfl
  ·obtain ⟨A2, c2, R, rfl, h3, hp, hs, hb2⟩ := hc
   have e := ch_eq (N := [ownT t v]) hL.asc (show DifL [ownT t v] from ⟨(fun u hu => nomatch hu), trivial⟩) (fun u hu z hz hzn => by
    obtain rfl : u = ownT t v := by simpa using hu
    show z.id ≠ t.id
    rw [hm.2]
    simpa using hzn) hp hs
   subst e
   exact ⟨A2, c2, rfl, h3, hb.trans (hb2.mono hb.size)⟩)
 have HAT := Lib.hid (fun i (hi : i < L.length) => h.at_ hi)
 have hlen := h.len
 clear h
 have HX : Hid (transM landB L k v = if (landB L && oB v) = false then (([] : List Lt), (1 : Int)) else match findL L k with | none => ([], 4) | some t => (chL [k] [ownT t v] L, 0)) := Lib.hid (by unfold transM oB; rw [Bool.and_assoc]; cases findL L k <;> rfl)
 generalize transM landB L k v = X at *
 generalize landB L = lb at *
 generalize oB v = ob at *
 cases lb
 ·have HV : Hid (X = ([], 1)) := Lib.hid (by rw [HX.out]; simp)
  clear HX HIX HCH HAT
  go_enter Tryz.func41, Tryz.ntmps41
  go_wp2_with fail
  refine (HR.out _ (Below.refl _ _)).mono ?_
  rintro e w1 ⟨rfl, hb1⟩
  have HB1 := Lib.hid hb1; clear hb1
  go_wp2_with fail
  go_ret2
  rw [HV.out]; exact OpR.err 1 HB1.out
 ·go_enter Tryz.func41, Tryz.ntmps41
  go_wp2_with fail
  refine (HR.out _ (Below.refl _ _)).mono ?_
  rintro e w1 ⟨rfl, hb1⟩
  have HB1 := Lib.hid hb1; clear hb1
  go_wp2_with fail
  refine (HOW.out _).mono ?_
  rintro e w2 ⟨rfl, hb2⟩
  have HB2 := Lib.hid (HB1.out.trans (hb2.mono HB1.out.size)); clear hb2
  cases ob
  ·have HV : Hid (X = ([], 1)) := Lib.hid (by rw [HX.out]; simp)
   clear HX HIX HCH HAT
   go_wp2_with fail
   go_ret2
   rw [HV.out]; exact OpR.err 1 HB2.out
  ·go_wp2_with fail
   refine (HIX.out trivial _ HB2.out).mono ?_
   rintro e w3 ⟨i, b, rfl, h1, h2, hb3⟩
   have HB3 := Lib.hid (HB2.out.trans (hb3.mono HB2.out.size)); clear hb3
   cases b
   ·have HV : Hid (X = ([], 4)) := Lib.hid (by rw [HX.out, h2 rfl]; simp)
    clear HX HIX HCH HAT h1 h2
    go_wp2_with fail
    go_ret2
    rw [HV.out]; exact OpR.err 4 HB3.out
   ·obtain ⟨hi, hf, hid⟩ := h1 rfl
    have HV : Hid (X = (chL [k] [ownT L[i] v] L, 0)) := Lib.hid (by rw [HX.out, hf]; simp)
    obtain ⟨b, o, p, rfl, hb, hc, hI⟩ := HAT.out i hi
    have n0 : (0 : Int) ≤ (i : Int) := by omega
    have n1 : (i : Int) < (L.length : Int) := by omega
    have HCH2 := Lib.hid (HCH.out trivial _ hf)
    have HI := Lib.hid (fun w' (hb : Below w.heap.size w w') => hI.below hb)
    obtain ⟨x0, x1, x2, x3⟩ := hc.below hb HB3.out
    clear HX HIX HCH HAT h1 h2 hI hc hid hf
    generalize L[i] = t at *
    obtain ⟨id, ow, ar, fr⟩ := t
    obtain ⟨PA, PC, PB, PD⟩ := p
    simp only at x0 x1 x2 x3
    go_wp2_with fail
    have hbb : Below w3.heap.size w3 (((w3.alloc (.cells #[.int .i64 id, .int .i64 v, .slice PA ar.length PC, .slice PB fr.length PD] 40)).alloc (.cells #[.int .i64 k] 3)).alloc (.cells #[.int .i64 id, .int .i64 v, .slice PA ar.length PC, .slice PB fr.length PD] 40)) := (((Below.refl _ _).alloc (Nat.le_refl _) _).alloc (by simp) _).alloc (by simp; omega) _
    have HB4 := Lib.hid (HB3.out.trans (hbb.mono HB3.out.size))
    refine (HCH2.out _ _ _ ⟨PA, PC, PB, PD⟩ HB4.out ?g1 ?g2 (HI.out _ HB4.out)).mono ?_
    case g1 => exact (((Below.refl _ ((w3.alloc (.cells #[.int .i64 id, .int .i64 v, .slice PA ar.length PC, .slice PB fr.length PD] 40)).alloc (.cells #[.int .i64 k] 3))).alloc (Nat.le_refl _) _).block _ (by simp)).trans (heap_alloc2_new w3 _ _)
    case g2 => exact LtAt.new _ (ownT ⟨id, ow, ar, fr⟩ v) ⟨PA, PC, PB, PD⟩ _ (by simp) rfl rfl
    rintro e w6 ⟨A6, c6, rfl, h6, hb6⟩
    have HF6 : Hid (OpR (chL [k] [ownT ⟨id, ow, ar, fr⟩ v] L, 0) w (.returned (.tuple #[.slice A6 (chL [k] [ownT ⟨id, ow, ar, fr⟩ v] L).length c6, .int .i64 0])) w6) := Lib.hid ⟨A6, c6, rfl, h6, hb6⟩
    clear h6 hb6 hbb HB4
    go_wp2_with fail
    go_ret2
    rw [HV.out]; exact HF6.out
end Go.Proofs.YtngddecpfhlilaaGreat
