/-
  Contracts of layer 13 (14): changed.
  Contracts of layer 13 (19): Add, Transfer.
  Contracts of layer 13 (20): Transfer.
  Contracts of layer 13 (22): At.
-/
import Derived.Test.YtngddecpfhlilaaGreatC29
import Derived.Test.YtngddecpfhlilaaGreatC22
import Derived.Test.YtngddecpfhlilaaGreatWs
import Derived.Test.YtngddecpfhlilaaGreatC27
import Derived.Test.YtngddecpfhlilaaGreatC09
import Derived.Test.YtngddecpfhlilaaGreatC18
import Derived.Test.YtngddecpfhlilaaGreatC13
set_option linter.unusedVariables false
set_option maxRecDepth 100000
namespace Go.Proofs.YtngddecpfhlilaaGreat
open Go.RowKit
theorem sortL13_any {v : Value} {X : List LtV} {w0 w : World} (h : TW v X w0 w) (hl : X.length ≤ 1099511627776) (ha : ∀ x ∈ X, LtS x.t) :
  ∃ A cap, v = .slice A X.length cap ∧ Calls Tryz.prog 134 #[.slice A X.length cap, .func (.func 135) #[] #[]] w fun e w' => e = .returned (.tuple #[]) ∧ ∃ R, R.Perm (tvS X) ∧ R.Pairwise (fun t u => t.id ≤ u.id) ∧ LtIn w' A cap R ∧ Below w0.heap.size w0 w' := by
 have hh := h.own
 have hlt := h.own.lt
 have hon := own_none (A := none) (c := 0) (World.ownsRow_nil w 0 40 4)
 rcases h.own.2 with ⟨rfl, h3⟩ | ⟨g, cap, cur, rfl, hB, hg, h4⟩
 ·have hz : X = [] := List.eq_nil_of_length_eq_zero h3
  subst hz
  refine ⟨none, 0, rfl, ?_⟩
  have hcon := Go.Proofs.AnyF.slices_SortFunc_none Go.Proofs.Tryz.laysSlF06_f134 none 0 (.func (.func 135) #[] #[]) w
  change Calls Tryz.prog 134 _ _ _ at hcon
  refine hcon.mono ?_
  rintro e w' ⟨rfl, rfl⟩
  exact ⟨rfl, [], List.Perm.refl _, List.Pairwise.nil, LtIn.nil _, h.bel⟩
 ·refine ⟨_, cap, rfl, ?_⟩
  refine (sortLt_any w0.heap.size g cap X w hh hl).mono ?_
  rintro e w' ⟨rfl, E, hp, hs, hc, hgr⟩
  have hlen := hp.length_eq
  refine ⟨rfl, tvS E, (hp.map _).symm, List.pairwise_map.2 hs, ⟨fun h0 => ⟨g, 0, rfl, Nat.lt_of_lt_of_le (hlt g rfl).2 hgr.size, fun j hj => ?_⟩, by rw [tvS_len]; omega, by rw [tvS_len, ← hlen]; exact h4.1, by have := h4.2.1; unfold maxLen at this; omega⟩, h.bel.grown hgr h.bel.size (fun k e => by cases e; exact hB)⟩
  rw [tvS_len] at hj
  have e : (tvS E)[j]'(by rw [tvS_len]; exact hj) = E[j].t := by simp [tvS]
  rw [e]
  have hm : E[j] ∈ X := hp.symm.subset (List.getElem_mem hj)
  have hk := ha _ hm
  obtain ⟨e0, e1, e2, e3⟩ := tvcells_at E j hj
  have c := fun i (hi : i < E.length * 4) => hc i hi
  have ka := own_kept hh (h.ar _ hm) (by decide) hgr
  have kb := own_kept hh (h.fr _ hm) (by decide) hgr
  rw [Nat.zero_add]
  exact ⟨E[j].p, ⟨(c _ (by omega)).trans e0, (c _ (by omega)).trans e1, (c _ (by omega)).trans e2, (c _ (by omega)).trans e3⟩, own_rin ka hk.1, own_nin kb hk.2, own_none ka, own_none kb⟩
def ChIs (G : List Int) (N L : List Lt) (w : World) (e : Ending) (w' : World) : Prop := ∃ A c R, e = .returned (.slice A R.length c) ∧ LtIn w' A c R ∧ R.Perm (wthL G L ++ N) ∧ R.Pairwise (fun t u => t.id ≤ u.id) ∧ Below w.heap.size w w'
theorem LtI.s {w : World} {t : Lt} {p : LtP} (h : LtI w t p) : LtS t := ⟨h.ar.len, h.fr.len⟩
set_option maxHeartbeats 32000000 in
theorem changed_any (A : Option Addr) (ca : Nat) (L : List Lt) (G : List Int) (AG : Option Addr) (cg : Nat) (N : List Lt) (AN : Option Addr) (cn : Nat) (w : World) (h1 : LtIn w A ca L) (h2 : NIn w AG cg G) (hG : Asc G) (h3 : LtIn w AN cn N) (hl : L.length ≤ 1073741824) (hl2 : N.length ≤ 1073741824) :
  Calls Tryz.prog 80 #[.slice A L.length ca, .slice AG G.length cg, .slice AN N.length cn] w (ChIs G N L w) := by
 obtain ⟨i1, hj9, hy0, hy1, hy2⟩ := info_parts infoLot
 have HIN := Lib.hid h1; have HG := Lib.hid h2; have HGA := Lib.hid hG; have HIN2 := Lib.hid h3
 clear h1 h2 hG h3
 have HG' : Hid (∃ ng, ng = G.length) := Lib.hid ⟨_, rfl⟩
 obtain ⟨ng, hng⟩ := HG'.out
 have HBS := Lib.hid (fun w' x (hb : Below w.heap.size w w') => show Calls Tryz.prog 109 #[.slice AG ng cg, .int .i64 x] w' (PosR G x w') from by rw [hng]; exact bs_any AG cg G x w' (HG.out.below hb) HGA.out)
 rw [← hng]
 clear hng HG'
 go_enter Tryz.func80, Tryz.ntmps80
 go_wp2_with fail
 go_loopw [7, 16] (fun v i wr => ∃ (k : Nat) (a : Value) (X : List LtV), k ≤ L.length ∧ i = .int .i64 k ∧ a = v ∧ Hid (TW a X w wr) ∧ Hid (tvS X = wthL G (L.take k)) ∧ Hid (X.length ≤ k) ∧ Hid (∀ x ∈ X, LtS x.t)) (fun _ i _ => L.length - (intOf i).toNat)
 case atStart => exact ⟨0, _, [], Nat.zero_le _, rfl, rfl, Lib.hid (TW.start (Below.refl _ _)), Lib.hid (by simp [tvS, wthL]), Lib.hid (by simp), Lib.hid (fun x hx => nomatch hx)⟩
 case round =>
  obtain ⟨k, v, X, hk, rfl, rfl, HK, HX, HZ, HS⟩ := hrel
  by_cases hlt : k < L.length
  ·have HBSk := Lib.hid (fun w' x (hb : Below wr.heap.size wr w') => HBS.out w' x (HK.out.bel.trans (hb.mono HK.out.bel.size)))
   obtain ⟨b, o, p, rfl, hb, ⟨x0, x1, x2, x3⟩, hi⟩ := HIN.out.at_ hlt
   have wc := fun o => HK.out.bel.cell (p := ⟨b, o, none⟩) hb
   have x0 := (wc _).trans x0; have x1 := (wc _).trans x1; have x2 := (wc _).trans x2; have x3 := (wc _).trans x3
   clear wc
   have n0 : (0 : Int) ≤ (k : Int) := by omega
   have n1 : (k : Int) < (L.length : Int) := by omega
   have hbs := HK.out.bel.size
   have HLI := Lib.hid (hi.below HK.out.bel)
   have HSS := Lib.hid hi.s
   clear hi
   have HWN := Lib.hid (fun (c : L[k].id ∉ G) => show wthL G (L.take (k + 1)) = wthL G (L.take k) ++ [L[k]] from by
    rw [← List.take_append_getElem hlt]; unfold wthL; rw [List.filter_append]; simp [c])
   have HWY := Lib.hid (fun (c : L[k].id ∈ G) => show wthL G (L.take (k + 1)) = wthL G (L.take k) from by
    rw [← List.take_append_getElem hlt]; unfold wthL; rw [List.filter_append]; simp [c])
   generalize L[k] = u at *
   obtain ⟨id, ow, ar, fr⟩ := u
   obtain ⟨PA, PC, PB, PD⟩ := p
   simp only at x0 x1 x2 x3 HWN HWY HLI HSS
   by_cases c : id ∈ G
   ·have hd := decide_eq_true c
    have HX2 := Lib.hid (HX.out.trans (HWY.out c).symm)
    clear HWN HWY c
    go_wp2_with fail
    refine (HBSk.out _ id (by (repeat' first | exact Below.refl _ _ | assumption | (apply below_drewN) | (refine Below.setCell ?_ (by (try simp); (try omega)) _) | (refine Below.alloc ?_ (by (try simp); (try omega)) _) | (refine Below.trans ?_ (Below.mono (Hid.out (by assumption)) (by (try simp); (try omega))))))).mono ?_
    rintro e w3 ⟨i, rfl, hi, q, rfl⟩
    rw [hd]
    clear hi
    go_wp2_with fail
    go_roundw
    case rel => exact ⟨k + 1, v, X, by omega, by go_num, rfl, Lib.hid (HK.out.go (by (repeat' first | exact Below.refl _ _ | assumption | (apply below_drewN) | (refine Below.setCell ?_ (by (try simp); (try omega)) _) | (refine Below.alloc ?_ (by (try simp); (try omega)) _) | (refine Below.trans ?_ (Below.mono (Hid.out (by assumption)) (by (try simp); (try omega))))))), HX2, Lib.hid (by have := HZ.out; omega), HS⟩
    case measure => simp [intOf]; omega
   ·have hd := decide_eq_false c
    have HX2 : Hid (∀ y : LtV, y.t = ⟨id, ow, ar, fr⟩ → tvS (X ++ [y]) = wthL G (L.take (k + 1))) := Lib.hid (fun y hy => by rw [tvS_append, HX.out, HWN.out c]; simp [tvS, hy])
    clear HWN HWY c
    go_wp2_with fail
    refine (HBSk.out _ id (by (repeat' first | exact Below.refl _ _ | assumption | (apply below_drewN) | (refine Below.setCell ?_ (by (try simp); (try omega)) _) | (refine Below.alloc ?_ (by (try simp); (try omega)) _) | (refine Below.trans ?_ (Below.mono (Hid.out (by assumption)) (by (try simp); (try omega))))))).mono ?_
    rintro e w3 ⟨i, rfl, hi, q, rfl⟩
    rw [hd]
    clear hi
    have HCL := Lib.hid (fun w' (hb : Below wr.heap.size wr w') => clone_any ⟨id, ow, ar, fr⟩ ⟨PA, PC, PB, PD⟩ w' (HLI.out.below hb))
    unfold lvl at HCL
    simp only at HCL
    go_wp2_with fail
    refine (HCL.out _ (by (repeat' first | exact Below.refl _ _ | assumption | (apply below_drewN) | (refine Below.setCell ?_ (by (try simp); (try omega)) _) | (refine Below.alloc ?_ (by (try simp); (try omega)) _) | (refine Below.trans ?_ (Below.mono (Hid.out (by assumption)) (by (try simp); (try omega))))))).mono ?_
    rintro e w5 ⟨⟨A5, c5, B5, d5⟩, rfl, hlo, hb5⟩
    have hbw5 : Below wr.heap.size wr w5 := Below.trans (by (repeat' first | exact Below.refl _ _ | assumption | (apply below_drewN) | (refine Below.setCell ?_ (by (try simp); (try omega)) _) | (refine Below.alloc ?_ (by (try simp); (try omega)) _) | (refine Below.trans ?_ (Below.mono (Hid.out (by assumption)) (by (try simp); (try omega)))))) (hb5.mono (by simp <;> omega))
    have HK5 := Lib.hid (HK.out.go hbw5)
    have HA5 := Lib.hid (own_base hlo.ar (B' := w.heap.size) (by simp <;> omega))
    have HN5 := Lib.hid (own_base hlo.fr (B' := w.heap.size) (by simp <;> omega))
    have hs5 : w.heap.size ≤ w5.heap.size := HK5.out.bel.size
    unfold lvl
    simp only at HA5 HN5 ⊢
    clear hb5 hlo hbw5
    go_wp2_with (at_builtin; refine wpList_append_own _ rfl _ _ 22 rfl w.heap.size 40 i1 (.agg #[.int .i64 0, .int .i64 0, .slice none 0 0, .slice none 0 0]) 4 64 Tryz.underlying22 hj9 hy0 hy1 hy2 rfl (by decide) _ _ _ rfl (HK5.out.own.alloc _) ⟨w5.heap.size, 0, none⟩ 1 1 [.int .i64 id, .int .i64 ow, .slice A5 ar.length c5, .slice B5 fr.length d5] rfl rfl ?d1 ?d2 ?d3 ?d4 ?d5 ?_)
    case d1 => exact World.news_of_block (cs := #[.int .i64 id, .int .i64 ow, .slice A5 ar.length c5, .slice B5 fr.length d5]) (t := 40) (fr := (0, 0)) (heap_alloc_new w5 _)
    case d2 => intro z hz; simp only [List.mem_cons, List.not_mem_nil, or_false] at hz; rcases hz with rfl | rfl | rfl | rfl <;> rfl
    case d3 => have := HZ.out; unfold maxLen; omega
    case d4 => have := HZ.out; omega
    case d5 => simp <;> omega
    intro v7 w7 hown7 hgr7 _
    have HK7 : Hid (TW v7 (X ++ [⟨⟨id, ow, ar, fr⟩, ⟨A5, c5, B5, d5⟩⟩]) w w7) := Lib.hid (TW.app (x := ⟨⟨id, ow, ar, fr⟩, ⟨A5, c5, B5, d5⟩⟩) (HK5.out.go ((Below.refl _ _).alloc (Nat.le_refl _) (.cells #[.int .i64 id, .int .i64 ow, .slice A5 ar.length c5, .slice B5 fr.length d5] 40))) (own_go HA5.out ((Below.refl _ _).alloc (Nat.le_refl _) _)) (own_go HN5.out ((Below.refl _ _).alloc (Nat.le_refl _) _)) hown7 hgr7)
    clear hown7 hgr7 HA5 HN5 HK5
    go_wp2_with fail
    go_roundw
    case rel => exact ⟨k + 1, v7, _, by omega, by go_num, rfl, HK7, Lib.hid (HX2.out _ rfl), Lib.hid (by have := HZ.out; simp; omega), Lib.hid (fun x hx => (List.mem_append.1 hx).elim (HS.out x) (fun hx => by rw [List.mem_singleton] at hx; subst hx; exact HSS.out))⟩
    case measure => simp [intOf]; omega
  ·obtain rfl : k = L.length := by omega
   rw [List.take_length] at HX
   have HZ1 := HZ
   have HS1 := HS
   have HNL : Hid (X.length ≤ L.length) := HZ
   clear HZ HS
   go_wp2_with fail
   go_loopw [7, 37] (fun v i wr => ∃ (k : Nat) (a : Value) (X : List LtV), k ≤ N.length ∧ i = .int .i64 k ∧ a = v ∧ Hid (TW a X w wr) ∧ Hid (tvS X = wthL G L ++ N.take k) ∧ Hid (X.length ≤ L.length + k) ∧ Hid (∀ x ∈ X, LtS x.t)) (fun _ i _ => N.length - (intOf i).toNat)
   case atStart => exact ⟨0, _, X, Nat.zero_le _, rfl, rfl, HK, Lib.hid (by rw [HX.out]; simp), Lib.hid (by have := HZ1.out; omega), HS1⟩
   case round =>
    clear HK HX HZ1 HS1 HNL
    obtain ⟨k, v, X, hk, rfl, rfl, HK, HX, HZ, HS⟩ := hrel
    by_cases hlt : k < N.length
    ·obtain ⟨b, o, p, rfl, hb, ⟨x0, x1, x2, x3⟩, hi⟩ := HIN2.out.at_ hlt
     have wc := fun o => HK.out.bel.cell (p := ⟨b, o, none⟩) hb
     have x0 := (wc _).trans x0; have x1 := (wc _).trans x1; have x2 := (wc _).trans x2; have x3 := (wc _).trans x3
     clear wc
     have n0 : (0 : Int) ≤ (k : Int) := by omega
     have n1 : (k : Int) < (N.length : Int) := by omega
     have hbs := HK.out.bel.size
     have HLI := Lib.hid (hi.below HK.out.bel)
     have HSS := Lib.hid hi.s
     clear hi
     have HWN := Lib.hid (show N.take (k + 1) = N.take k ++ [N[k]] from (List.take_append_getElem hlt).symm)
     generalize N[k] = u at *
     obtain ⟨id, ow, ar, fr⟩ := u
     obtain ⟨PA, PC, PB, PD⟩ := p
     simp only at x0 x1 x2 x3 HWN HLI HSS
     have HX2 : Hid (∀ y : LtV, y.t = ⟨id, ow, ar, fr⟩ → tvS (X ++ [y]) = wthL G L ++ N.take (k + 1)) := Lib.hid (fun y hy => by rw [tvS_append, HX.out, HWN.out]; simp [tvS, hy])
     clear HWN
     have HCL := Lib.hid (fun w' (hb : Below wr.heap.size wr w') => clone_any ⟨id, ow, ar, fr⟩ ⟨PA, PC, PB, PD⟩ w' (HLI.out.below hb))
     unfold lvl at HCL
     simp only at HCL
     go_wp2_with fail
     refine (HCL.out _ (by (repeat' first | exact Below.refl _ _ | assumption | (apply below_drewN) | (refine Below.setCell ?_ (by (try simp); (try omega)) _) | (refine Below.alloc ?_ (by (try simp); (try omega)) _) | (refine Below.trans ?_ (Below.mono (Hid.out (by assumption)) (by (try simp); (try omega))))))).mono ?_
     rintro e w5 ⟨⟨A5, c5, B5, d5⟩, rfl, hlo, hb5⟩
     have hbw5 : Below wr.heap.size wr w5 := Below.trans (by (repeat' first | exact Below.refl _ _ | assumption | (apply below_drewN) | (refine Below.setCell ?_ (by (try simp); (try omega)) _) | (refine Below.alloc ?_ (by (try simp); (try omega)) _) | (refine Below.trans ?_ (Below.mono (Hid.out (by assumption)) (by (try simp); (try omega)))))) (hb5.mono (by simp <;> omega))
     have HK5 := Lib.hid (HK.out.go hbw5)
     have HA5 := Lib.hid (own_base hlo.ar (B' := w.heap.size) (by simp <;> omega))
     have HN5 := Lib.hid (own_base hlo.fr (B' := w.heap.size) (by simp <;> omega))
     have hs5 : w.heap.size ≤ w5.heap.size := HK5.out.bel.size
     unfold lvl
     simp only at HA5 HN5 ⊢
     clear hb5 hlo hbw5
     go_wp2_with (at_builtin; refine wpList_append_own _ rfl _ _ 22 rfl w.heap.size 40 i1 (.agg #[.int .i64 0, .int .i64 0, .slice none 0 0, .slice none 0 0]) 4 64 Tryz.underlying22 hj9 hy0 hy1 hy2 rfl (by decide) _ _ _ rfl (HK5.out.own.alloc _) ⟨w5.heap.size, 0, none⟩ 1 1 [.int .i64 id, .int .i64 ow, .slice A5 ar.length c5, .slice B5 fr.length d5] rfl rfl ?d1 ?d2 ?d3 ?d4 ?d5 ?_)
     case d1 => exact World.news_of_block (cs := #[.int .i64 id, .int .i64 ow, .slice A5 ar.length c5, .slice B5 fr.length d5]) (t := 40) (fr := (0, 0)) (heap_alloc_new w5 _)
     case d2 => intro z hz; simp only [List.mem_cons, List.not_mem_nil, or_false] at hz; rcases hz with rfl | rfl | rfl | rfl <;> rfl
     case d3 => have := HZ.out; unfold maxLen; omega
     case d4 => have := HZ.out; omega
     case d5 => simp <;> omega
     intro v7 w7 hown7 hgr7 _
     have HK7 : Hid (TW v7 (X ++ [⟨⟨id, ow, ar, fr⟩, ⟨A5, c5, B5, d5⟩⟩]) w w7) := Lib.hid (TW.app (x := ⟨⟨id, ow, ar, fr⟩, ⟨A5, c5, B5, d5⟩⟩) (HK5.out.go ((Below.refl _ _).alloc (Nat.le_refl _) (.cells #[.int .i64 id, .int .i64 ow, .slice A5 ar.length c5, .slice B5 fr.length d5] 40))) (own_go HA5.out ((Below.refl _ _).alloc (Nat.le_refl _) _)) (own_go HN5.out ((Below.refl _ _).alloc (Nat.le_refl _) _)) hown7 hgr7)
     clear hown7 hgr7 HA5 HN5 HK5
     go_wp2_with fail
     go_roundw
     case rel => exact ⟨k + 1, v7, _, by omega, by go_num, rfl, HK7, Lib.hid (HX2.out _ rfl), Lib.hid (by have := HZ.out; simp; omega), Lib.hid (fun x hx => (List.mem_append.1 hx).elim (HS.out x) (fun hx => by rw [List.mem_singleton] at hx; subst hx; exact HSS.out))⟩
     case measure => simp [intOf]; omega
    ·obtain rfl : k = N.length := by omega
     rw [List.take_length] at HX
     obtain ⟨A9, c9, rfl, hso⟩ := sortL13_any HK.out (by have := HZ.out; omega) HS.out
     have HSO := Lib.hid hso; clear hso
     rw [HX.out] at HSO
     have HNX : Hid (X.length = (wthL G L ++ N).length) := Lib.hid (by rw [← HX.out, tvS_len])
     clear HK HX HZ HS
     generalize X.length = nx at *
     go_wp2_with fail
     refine HSO.out.mono ?_
     rintro e w8 ⟨rfl, R, hp, hs, hin, hb8⟩
     have HF : Hid (ChIs G N L w (.returned (.slice A9 nx c9)) w8) := Lib.hid ⟨A9, c9, R, by rw [HNX.out, hp.length_eq], hin, hp, hs, hb8⟩
     clear hp hs hin hb8 HSO HNX
     go_wp2_with fail
     go_ret
     obtain ⟨A2, c2, R2, e2, h2, h3, h4, h5⟩ := HF.out
     exact ⟨A2, c2, R2, e2, h2.below (by (repeat' first | exact Below.refl _ _ | assumption | (apply below_drewN) | (refine Below.setCell ?_ (by (try simp); (try omega)) _) | (refine Below.alloc ?_ (by (try simp); (try omega)) _) | (refine Below.trans ?_ (Below.mono (Hid.out (by assumption)) (by (try simp); (try omega)))))), h3, h4, h5.trans (by (repeat' first | exact Below.refl _ _ | assumption | (apply below_drewN) | (refine Below.setCell ?_ (by (try simp); (try omega)) _) | (refine Below.alloc ?_ (by (try simp); (try omega)) _) | (refine Below.trans ?_ (Below.mono (Hid.out (by assumption)) (by (try simp); (try omega))))))⟩
end Go.Proofs.YtngddecpfhlilaaGreat
namespace Go.Proofs.YtngddecpfhlilaaGreat
open Go.RowKit
def OpR (x : List Lt × Int) (w : World) (e : Ending) (w' : World) : Prop := ∃ A c, e = .returned (.tuple #[.slice A x.1.length c, .int .i64 x.2]) ∧ LtIn w' A c x.1 ∧ Below w.heap.size w w'
theorem OpR.err {w w' : World} (k : Int) (hb : Below w.heap.size w w') : OpR ([], k) w (.returned (.tuple #[.slice none 0 0, .int .i64 k])) w' := ⟨none, 0, rfl, LtIn.nil _, hb⟩
theorem asc_pw : ∀ {l : List Lt}, AscL l ↔ l.Pairwise (fun t u => t.id < u.id)
 | [] => by simp [AscL]
 | t :: l => by rw [List.pairwise_cons, ← asc_pw]; rfl
theorem dif_pw : ∀ {l : List Lt}, DifL l → l.Pairwise (fun t u => t.id ≠ u.id)
 | [], _ => List.Pairwise.nil
 | t :: l, h => List.pairwise_cons.2 ⟨h.1, dif_pw h.2⟩
theorem ch_eq {L N R : List Lt} {G : List Int} (hL : AscL L) (hd : DifL N) (hn : ∀ t ∈ N, ∀ u ∈ L, u.id ∉ G → u.id ≠ t.id) (hp : R.Perm (wthL G L ++ N)) (hs : R.Pairwise (fun t u => t.id ≤ u.id)) : R = chL G N L := by
 have h1 : (wthL G L ++ N).Pairwise (fun t u => t.id ≠ u.id) := by
  rw [List.pairwise_append]
  refine ⟨(asc_pw.1 (asc_filter _ hL)).imp (fun h => by omega), dif_pw hd, fun u hu t ht => ?_⟩
  obtain ⟨h2, h3⟩ := mem_wthL.1 hu
  exact hn t ht u h2 h3
 have h2 : R.Pairwise (fun t u => t.id ≠ u.id) := (hp.pairwise_iff (fun {a b} h => Ne.symm h)).2 h1
 have h3 : AscL R := asc_pw.2 ((hs.and h2).imp (fun h => by omega))
 refine ascL_eq h3 (asc_chL hL hd hn) (fun t => ?_)
 rw [hp.mem_iff, List.mem_append, mem_chL, mem_wthL]
 exact Or.comm
theorem mtB_comm (a b : List Rc) : mtB a b = mtB b a := by
 have key : ∀ a b : List Rc, mtB a b = true → mtB b a = true := fun a b h => by
  unfold mtB at h ⊢
  obtain ⟨r, hr, h⟩ := List.any_eq_true.1 h
  obtain ⟨q, hq, h⟩ := List.any_eq_true.1 h
  refine List.any_eq_true.2 ⟨q, hq, List.any_eq_true.2 ⟨r, hr, ?_⟩⟩
  simp only [Bool.and_eq_true, decide_eq_true_eq] at h ⊢
  omega
 cases h : mtB a b
 ·cases h2 : mtB b a
  ·rfl
  ·rw [key b a h2] at h; exact absurd h (by simp)
 ·exact (key a b h).symm
theorem LtIn.one {w : World} {b : Nat} {t : Lt} {p : LtP} (h : LtAt w b t p) (hi : LtI w t p) : LtIn w (some ⟨b, 0, none⟩) 1 [t] :=
 ⟨fun _ => ⟨b, 0, rfl, h.lt, fun j hj => by
  obtain rfl : j = 0 := by simp at hj; exact hj
  exact ⟨p, by simpa using h.c, hi⟩⟩, by simp, by simp, by omega⟩
theorem eg_ad : ∀ args w, (callFunc 93 args).run Tryz.prog w = .ok (.enter 93 args) w := enters_of Tryz.func93 (by kernel_rfl) rfl
theorem addC_any (t : Lt) (p : LtP) (u : Lt) (q : LtP) (pb : Nat) (w : World) (h : LtI w t p) (hu : LtI w u q) (hp : LtAt w pb t p) :
  Calls Tryz.prog 93 #[lvl u q, .pointer (some ⟨pb, 0, none⟩)] w (BlIs (mtB t.ar u.ar) w) := by
 have HM := Lib.hid (fun w' (hb : Below w.heap.size w w') => meet13_any q.A q.c p.A p.c u.ar t.ar w' (hu.ar.below hb) (h.ar.below hb))
 rw [mtB_comm]
 have hpl := hp.lt
 obtain ⟨x0, x1, x2, x3⟩ := hp.c
 simp only [Nat.zero_add] at x1 x2 x3
 clear h hu hp
 generalize mtB u.ar t.ar = z at *
 obtain ⟨id, ow, ar, fr⟩ := u
 obtain ⟨QA, QC, QB, QD⟩ := q
 obtain ⟨id2, ow2, ar2, fr2⟩ := t
 obtain ⟨PA, PC, PB, PD⟩ := p
 unfold lvl
 simp only at HM x0 x1 x2 x3 ⊢
 go_enter Tryz.func93, Tryz.ntmps93
 go_wp2_with fail
 refine (HM.out _ (by (repeat' first | exact Below.refl _ _ | assumption | (apply below_drewN) | (refine Below.setCell ?_ (by (try simp); (try omega)) _) | (refine Below.alloc ?_ (by (try simp); (try omega)) _) | (refine Below.trans ?_ (Below.mono (Hid.out (by assumption)) (by (try simp); (try omega))))))).mono ?_
 rintro e w1 ⟨rfl, hb⟩
 have HB := Lib.hid hb; clear hb
 go_wp2_with fail
 go_ret
 exact ⟨rfl, by (repeat' first | exact Below.refl _ _ | assumption | (apply below_drewN) | (refine Below.setCell ?_ (by (try simp); (try omega)) _) | (refine Below.alloc ?_ (by (try simp); (try omega)) _) | (refine Below.trans ?_ (Below.mono (Hid.out (by assumption)) (by (try simp); (try omega)))))⟩
set_option maxHeartbeats 16000000 in
theorem add13_any (A : Option Addr) (cap : Nat) (L : List Lt) (t : Lt) (p : LtP) (w : World) (h : LtIn w A cap L) (hi : LtI w t p) :
  Calls Tryz.prog 39 #[.slice A L.length cap, lvl t p] w (OpR (addM landB lotB L t) w) := by
 have HR := Lib.hid (fun w' (hb : Below w.heap.size w w') => right13_any A cap L w' (h.below hb))
 have HLT := Lib.hid (fun w' (hb : Below w.heap.size w w') => lot_any t p w' (hi.below hb))
 have HTK := Lib.hid (fun w' (hb : Below w.heap.size w w') => taken_any A cap L t.id w' (h.below hb))
 have HMT : Hid (∀ w' pb, Below w.heap.size w w' → LtAt w' pb t p → Calls Tryz.prog 82 #[.slice A L.length cap, .func (.func 93) #[] #[.pointer (some ⟨pb, 0, none⟩)]] w' (BlIs (L.any fun u => mtB t.ar u.ar) w')) := Lib.hid (fun w' pb hb h1 => lcf_any 93 eg_ad #[.pointer (some ⟨pb, 0, none⟩)] (fun u => mtB t.ar u.ar) A cap L w' (h.below hb) (fun j hj w2 hb2 q hq => addC_any t p L[j] q pb w2 ((hi.below hb).below hb2) hq (h1.below hb2)))
 have HCH : Hid (L.length ≤ 20000 → ∀ w' pb, Below w.heap.size w w' → LtAt w' pb t p → Calls Tryz.prog 80 #[.slice A L.length cap, .slice none 0 0, .slice (some ⟨pb, 0, none⟩) 1 1] w' (ChIs [] [t] L w')) := Lib.hid (fun hl w' pb hb h1 => changed_any A cap L [] none 0 [t] (some ⟨pb, 0, none⟩) 1 w' (h.below hb) (NIn.nil _) trivial (LtIn.one h1 (hi.below hb)) (by omega) (by simp))
 have HEQ : Hid (landB L = true → takB L t.id = false → ∀ R, R.Perm (wthL [] L ++ [t]) → R.Pairwise (fun t u => t.id ≤ u.id) → R = chL [] [t] L) := Lib.hid (fun h1 h2 R hp hs => ch_eq ((landB_iff L).1 h1).asc ⟨(fun u hu => nomatch hu), trivial⟩ (fun v hv u hu _ c => by
  obtain rfl : v = t := by simpa using hv
  have : takB L v.id = true := (takB_iff L v.id).2 ⟨u, hu, .inl c⟩
  rw [h2] at this; exact absurd this (by simp)) hp hs)
 have HLN : Hid (landB L = true → L.length ≤ 20000) := Lib.hid (fun h1 => ((landB_iff L).1 h1).len)
 have hlen := h.len
 have hbn := hi.bn
 clear h hi
 have HX : Hid (addM landB lotB L t = if (landB L && lotB t && decide (t.fr.length = 0)) = false then ([], 1) else if takB L t.id = true then ([], 5) else if (L.any fun u => mtB t.ar u.ar) = true then ([], 11) else if 20000 ≤ L.length then ([], 6) else (chL [] [t] L, 0)) := Lib.hid (by unfold addM; rw [show t.fr.isEmpty = decide (t.fr.length = 0) by cases t.fr <;> simp])
 have HAT : Hid (LtAt (w.alloc (.cells #[.int .i64 t.id, .int .i64 t.ow, .slice p.A t.ar.length p.c, .slice p.B t.fr.length p.d] 40)) w.heap.size t p) := Lib.hid (LtAt.new w t p _ rfl rfl rfl)
 have HCC : Hid (∀ w', LtAt w' w.heap.size t p → w'.cell? ⟨w.heap.size, 0, none⟩ = some (.int .i64 t.id) ∧ w'.cell? ⟨w.heap.size, 1, none⟩ = some (.int .i64 t.ow) ∧ w'.cell? ⟨w.heap.size, 2, none⟩ = some (.slice p.A t.ar.length p.c) ∧ w'.cell? ⟨w.heap.size, 3, none⟩ = some (.slice p.B t.fr.length p.d) ∧ w.heap.size < w'.heap.size) := Lib.hid (fun w' h => by
  obtain ⟨c0, c1, c2, c3⟩ := h.c
  simp only [Nat.zero_add] at c1 c2 c3
  exact ⟨c0, c1, c2, c3, h.lt⟩)
 have HFIN : Hid (landB L = true → takB L t.id = false → ∀ w' e w2, Below w.heap.size w w' → ChIs [] [t] L w' e w2 → ∃ A c, e = .returned (.slice A (chL [] [t] L).length c) ∧ LtIn w2 A c (chL [] [t] L) ∧ Below w.heap.size w w2) := Lib.hid (fun h1 h2 w' e w2 hb hc => by
  obtain ⟨A2, c2, R, rfl, h3, hp, hs, hb2⟩ := hc
  have e := HEQ.out h1 h2 R hp hs
  subst e
  exact ⟨A2, c2, rfl, h3, hb.trans (hb2.mono hb.size)⟩)
 have HNEW : Hid (∀ w', LtAt w' w.heap.size t p → ∀ k, k = w'.heap.size → LtAt (w'.alloc (.cells #[.int .i64 t.id, .int .i64 t.ow, .slice p.A t.ar.length p.c, .slice p.B t.fr.length p.d] 40)) k t p) := Lib.hid (fun w' _ k hk => LtAt.new w' t p k hk rfl rfl)
 clear HEQ
 generalize addM landB lotB L t = X at *
 generalize landB L = lb at *
 generalize lotB t = lo at *
 generalize takB L t.id = tk at *
 generalize (L.any fun u => mtB t.ar u.ar) = mt at *
 generalize hCR : chL [] [t] L = CR at *
 obtain ⟨id, ow, ar, fr⟩ := t
 obtain ⟨PA, PC, PB, PD⟩ := p
 unfold lvl at HLT ⊢
 simp only at HLT HTK HAT HCC HX HNEW hbn ⊢
 have HAB := Lib.hid (fun w' (hb : Below (w.alloc (.cells #[.int .i64 id, .int .i64 ow, .slice PA ar.length PC, .slice PB fr.length PD] 40)).heap.size (w.alloc (.cells #[.int .i64 id, .int .i64 ow, .slice PA ar.length PC, .slice PB fr.length PD] 40)) w') => HAT.out.below hb)
 clear hCR
 cases lb
 ·have HV : Hid (X = ([], 1)) := Lib.hid (by rw [HX.out]; simp)
  clear HX HFIN HLN HCH
  go_enter Tryz.func39, Tryz.ntmps39
  go_wp2_with fail
  refine (HR.out _ (by (repeat' first | exact Below.refl _ _ | assumption | (apply below_drewN) | (refine Below.setCell ?_ (by (try simp); (try omega)) _) | (refine Below.alloc ?_ (by (try simp); (try omega)) _) | (refine Below.trans ?_ (Below.mono (Hid.out (by assumption)) (by (try simp); (try omega))))))).mono ?_
  rintro e w1 ⟨rfl, hb1⟩
  have HB1 := Lib.hid (((Below.refl w.heap.size w).alloc (Nat.le_refl _) _).trans (hb1.mono (by simp))); clear hb1
  go_wp2_with fail
  go_ret2
  rw [HV.out]; exact OpR.err 1 (by first | exact HB2.out | exact HB1.out)
 ·go_enter Tryz.func39, Tryz.ntmps39
  go_wp2_with fail
  refine (HR.out _ (by (repeat' first | exact Below.refl _ _ | assumption | (apply below_drewN) | (refine Below.setCell ?_ (by (try simp); (try omega)) _) | (refine Below.alloc ?_ (by (try simp); (try omega)) _) | (refine Below.trans ?_ (Below.mono (Hid.out (by assumption)) (by (try simp); (try omega))))))).mono ?_
  rintro e w1 ⟨rfl, hb1⟩
  have HA1 := Lib.hid (HAB.out _ hb1)
  have HB1 := Lib.hid (((Below.refl w.heap.size w).alloc (Nat.le_refl _) _).trans (hb1.mono (by simp))); clear hb1
  obtain ⟨y0, y1, y2, y3, yl⟩ := HCC.out _ HA1.out
  go_wp2_with fail
  refine (HLT.out _ HB1.out).mono ?_
  rintro e w2 ⟨rfl, hb2⟩
  have HA2 := Lib.hid (HA1.out.below hb2)
  have HB2 := Lib.hid (HB1.out.trans (hb2.mono HB1.out.size)); clear hb2
  clear y0 y1 y2 y3 yl
  obtain ⟨y0, y1, y2, y3, yl⟩ := HCC.out _ HA2.out
  cases lo
  ·have HV : Hid (X = ([], 1)) := Lib.hid (by rw [HX.out]; simp)
   clear HX HFIN HLN HCH
   go_wp2_with fail
   go_ret2
   rw [HV.out]; exact OpR.err 1 (by first | exact HB2.out | exact HB1.out)
  ·by_cases hf : fr.length = 0
   ·have s0 : ¬ (0 : Int) < (fr.length : Int) := by omega
    cases tk
    ·have HF := Lib.hid hf; clear hf
     go_wp2_with fail
     refine (HTK.out _ HB2.out).mono ?_
     rintro e w3 ⟨rfl, hb3⟩
     have HA3 := Lib.hid (HA2.out.below hb3)
     have HB3 := Lib.hid (HB2.out.trans (hb3.mono HB2.out.size)); clear hb3
     clear y0 y1 y2 y3 yl
     go_wp2_with fail
     refine (HMT.out _ _ HB3.out HA3.out).mono ?_
     rintro e w4 ⟨rfl, hb4⟩
     have HA4 := Lib.hid (HA3.out.below hb4)
     have HB4 := Lib.hid (HB3.out.trans (hb4.mono HB3.out.size)); clear hb4
     obtain ⟨y0, y1, y2, y3, yl⟩ := HCC.out _ HA4.out
     cases mt
     ·have hl2 := HLN.out trivial
      by_cases hl : L.length = 20000
      ·have HV : Hid (X = ([], 6)) := Lib.hid (by rw [HX.out]; simp [HF.out, hl])
       have z0 : ((L.length : Int) == 20000) = true := by simp; omega
       have HL := Lib.hid hl; clear hl hl2
       clear HX HFIN HLN HCH
       go_wp2_with fail
       go_ret2
       rw [HV.out]; exact OpR.err 6 HB4.out
      ·have HV : Hid (X = (CR, 0)) := Lib.hid (by rw [HX.out]; simp [HF.out]; omega)
       have z0 : ((L.length : Int) == 20000) = false := by simp; omega
       have HCH2 := Lib.hid (HCH.out hl2)
       clear HX HLN HCH hl hl2
       go_wp2_with fail
       have HB5 : Hid (Below w.heap.size w (w4.alloc (.cells #[.int .i64 id, .int .i64 ow, .slice PA ar.length PC, .slice PB fr.length PD] 40))) := Lib.hid (HB4.out.trans (((Below.refl _ w4).alloc (Nat.le_refl _) _).mono HB4.out.size))
       refine (HCH2.out _ _ HB5.out (HNEW.out _ HA4.out _ rfl)).mono ?_
       rintro e w6 hc
       obtain ⟨A6, c6, rfl, h6, hb6⟩ := HFIN.out trivial trivial _ _ _ HB5.out hc
       have HF6 : Hid (OpR (CR, 0) w (.returned (.tuple #[.slice A6 CR.length c6, .int .i64 0])) w6) := Lib.hid ⟨A6, c6, rfl, h6, hb6⟩
       clear hc h6 hb6
       go_wp2_with fail
       go_ret2
       rw [HV.out]; exact HF6.out
     ·have HV : Hid (X = ([], 11)) := Lib.hid (by rw [HX.out]; simp [HF.out])
      clear HX HFIN HLN HCH
      go_wp2_with fail
      go_ret2
      rw [HV.out]; exact OpR.err 11 HB4.out
    ·have HV : Hid (X = ([], 5)) := Lib.hid (by rw [HX.out]; simp [hf])
     clear HX HFIN HLN HCH
     have HF := Lib.hid hf; clear hf
     go_wp2_with fail
     refine (HTK.out _ HB2.out).mono ?_
     rintro e w3 ⟨rfl, hb3⟩
     have HB3 := Lib.hid (HB2.out.trans (hb3.mono HB2.out.size)); clear hb3
     go_wp2_with fail
     go_ret2
     rw [HV.out]; exact OpR.err 5 HB3.out
   ·have s0 : (0 : Int) < (fr.length : Int) := by omega
    have HV : Hid (X = ([], 1)) := Lib.hid (by rw [HX.out]; simp [hf])
    clear HX HFIN HLN HCH
    have HF := Lib.hid hf; clear hf
    go_wp2_with fail
    go_ret2
    rw [HV.out]; exact OpR.err 1 (by first | exact HB2.out | exact HB1.out)
end Go.Proofs.YtngddecpfhlilaaGreat
namespace Go.Proofs.YtngddecpfhlilaaGreat
open Go.RowKit
def IxR (l : List Lt) (x : Int) (w : World) (e : Ending) (w' : World) : Prop := ∃ (i : Nat) (b : Bool), e = .returned (.tuple #[.int .i64 (i : Int), .bool b]) ∧ (b = true → ∃ h : i < l.length, findL l x = some l[i] ∧ l[i].id = x) ∧ (b = false → findL l x = none) ∧ Below w.heap.size w w'
theorem ix_any (A : Option Addr) (cap : Nat) (l : List Lt) (x : Int) (w : World) (h : LtIn w A cap l) (ha : AscL l) : Calls Tryz.prog 75 #[.slice A l.length cap, .int .i64 x] w (IxR l x w) :=
 (index_any A cap l x w h ha).mono (fun e w' ⟨i, he, hp, hb⟩ => by
  refine ⟨i, isIn l x, he, fun h1 => ?_, fun h1 => ?_, hb⟩
  ·obtain ⟨h2, h3⟩ := (hp.mem (fun i j hij hj => ascL_at ha hij hj)).1 h1
   refine ⟨h2, ?_, h3⟩
   have := find_of ha (List.getElem_mem h2)
   rw [h3] at this
   exact this
  ·unfold findL
   refine List.find?_eq_none.2 (fun t ht c => ?_)
   have : isIn l x = true := List.any_eq_true.2 ⟨t, ht, c⟩
   rw [h1] at this
   exact absurd this (by simp))
set_option maxHeartbeats 16000000 in
theorem trans13_any (A : Option Addr) (cap : Nat) (L : List Lt) (k v : Int) (w : World) (h : LtIn w A cap L) :
  Calls Tryz.prog 41 #[.slice A L.length cap, .int .i64 k, .int .i64 v] w (OpR (transM landB L k v) w) := by
 have HR := Lib.hid (fun w' (hb : Below w.heap.size w w') => right13_any A cap L w' (h.below hb))
 have HOW := Lib.hid (fun w' => own_any v w')
 have HIX := Lib.hid (fun (h1 : landB L = true) w' (hb : Below w.heap.size w w') => ix_any A cap L k w' (h.below hb) ((landB_iff L).1 h1).asc)
 have HCH : Hid (landB L = true → ∀ t, findL L k = some t → ∀ w' g pb (p : LtP), Below w.heap.size w w' → w'.heap[g]? = some (.cells #[.int .i64 k] 3 (0, 0)) → LtAt w' pb (ownT t v) p → LtI w' t p → Calls Tryz.prog 80 #[.slice A L.length cap, .slice (some ⟨g, 0, none⟩) 1 1, .slice (some ⟨pb, 0, none⟩) 1 1] w' (fun e w2 => ∃ A c, e = .returned (.slice A (chL [k] [ownT t v] L).length c) ∧ LtIn w2 A c (chL [k] [ownT t v] L) ∧ Below w.heap.size w w2)) := Lib.hid (fun h1 t ht w' g pb p hb hg h2 hi => by
  have hL := (landB_iff L).1 h1
  have hm := find_mem ht
  refine (changed_any A cap L [k] (some ⟨g, 0, none⟩) 1 [ownT t v] (some ⟨pb, 0, none⟩) 1 w' (h.below hb) ⟨fun _ => ⟨g, 0, rfl, (Array.getElem?_eq_some_iff.1 hg).1, fun j hj => ?_⟩, by simp, by simp, by omega⟩ trivial (LtIn.one h2 ⟨hi.ar, hi.fr, hi.an, hi.bn⟩) (by have := hL.len; omega) (by simp)).mono (fun e w2 hc => ?_)
  ·obtain rfl : j = 0 := by simp at hj; exact hj
   rw [Lib.cell_of_heap hg]; rfl
  ·obtain ⟨A2, c2, R, rfl, h3, hp, hs, hb2⟩ := hc
   have e := ch_eq (N := [ownT t v]) hL.asc (show DifL [ownT t v] from ⟨(fun u hu => nomatch hu), trivial⟩) (fun u hu z hz hzn => by
    obtain rfl : u = ownT t v := by simpa using hu
    show z.id ≠ t.id
    rw [hm.2]
    simpa using hzn) hp hs
   subst e
   exact ⟨A2, c2, rfl, h3, hb.trans (hb2.mono hb.size)⟩)
 have HAT := Lib.hid (fun i (hi : i < L.length) => h.at_ hi)
 have hlen := h.len
 clear h
 have HX : Hid (transM landB L k v = if (landB L && oB v) = false then (([] : List Lt), (1 : Int)) else match findL L k with | none => ([], 4) | some t => (chL [k] [ownT t v] L, 0)) := Lib.hid (by unfold transM oB; rw [Bool.and_assoc]; cases findL L k <;> rfl)
 generalize transM landB L k v = X at *
 generalize landB L = lb at *
 generalize oB v = ob at *
 cases lb
 ·have HV : Hid (X = ([], 1)) := Lib.hid (by rw [HX.out]; simp)
  clear HX HIX HCH HAT
  go_enter Tryz.func41, Tryz.ntmps41
  go_wp2_with fail
  refine (HR.out _ (Below.refl _ _)).mono ?_
  rintro e w1 ⟨rfl, hb1⟩
  have HB1 := Lib.hid hb1; clear hb1
  go_wp2_with fail
  go_ret2
  rw [HV.out]; exact OpR.err 1 HB1.out
 ·go_enter Tryz.func41, Tryz.ntmps41
  go_wp2_with fail
  refine (HR.out _ (Below.refl _ _)).mono ?_
  rintro e w1 ⟨rfl, hb1⟩
  have HB1 := Lib.hid hb1; clear hb1
  go_wp2_with fail
  refine (HOW.out _).mono ?_
  rintro e w2 ⟨rfl, hb2⟩
  have HB2 := Lib.hid (HB1.out.trans (hb2.mono HB1.out.size)); clear hb2
  cases ob
  ·have HV : Hid (X = ([], 1)) := Lib.hid (by rw [HX.out]; simp)
   clear HX HIX HCH HAT
   go_wp2_with fail
   go_ret2
   rw [HV.out]; exact OpR.err 1 HB2.out
  ·go_wp2_with fail
   refine (HIX.out trivial _ HB2.out).mono ?_
   rintro e w3 ⟨i, b, rfl, h1, h2, hb3⟩
   have HB3 := Lib.hid (HB2.out.trans (hb3.mono HB2.out.size)); clear hb3
   cases b
   ·have HV : Hid (X = ([], 4)) := Lib.hid (by rw [HX.out, h2 rfl]; simp)
    clear HX HIX HCH HAT h1 h2
    go_wp2_with fail
    go_ret2
    rw [HV.out]; exact OpR.err 4 HB3.out
   ·obtain ⟨hi, hf, hid⟩ := h1 rfl
    have HV : Hid (X = (chL [k] [ownT L[i] v] L, 0)) := Lib.hid (by rw [HX.out, hf]; simp)
    obtain ⟨b, o, p, rfl, hb, hc, hI⟩ := HAT.out i hi
    have n0 : (0 : Int) ≤ (i : Int) := by omega
    have n1 : (i : Int) < (L.length : Int) := by omega
    have HCH2 := Lib.hid (HCH.out trivial _ hf)
    have HI := Lib.hid (fun w' (hb : Below w.heap.size w w') => hI.below hb)
    obtain ⟨x0, x1, x2, x3⟩ := hc.below hb HB3.out
    clear HX HIX HCH HAT h1 h2 hI hc hid hf
    generalize L[i] = t at *
    obtain ⟨id, ow, ar, fr⟩ := t
    obtain ⟨PA, PC, PB, PD⟩ := p
    simp only at x0 x1 x2 x3
    go_wp2_with fail
    have hbb : Below w3.heap.size w3 (((w3.alloc (.cells #[.int .i64 id, .int .i64 v, .slice PA ar.length PC, .slice PB fr.length PD] 40)).alloc (.cells #[.int .i64 k] 3)).alloc (.cells #[.int .i64 id, .int .i64 v, .slice PA ar.length PC, .slice PB fr.length PD] 40)) := (((Below.refl _ _).alloc (Nat.le_refl _) _).alloc (by simp) _).alloc (by simp; omega) _
    have HB4 := Lib.hid (HB3.out.trans (hbb.mono HB3.out.size))
    refine (HCH2.out _ _ _ ⟨PA, PC, PB, PD⟩ HB4.out ?g1 ?g2 (HI.out _ HB4.out)).mono ?_
    case g1 => exact (((Below.refl _ ((w3.alloc (.cells #[.int .i64 id, .int .i64 v, .slice PA ar.length PC, .slice PB fr.length PD] 40)).alloc (.cells #[.int .i64 k] 3))).alloc (Nat.le_refl _) _).block _ (by simp)).trans (heap_alloc2_new w3 _ _)
    case g2 => exact LtAt.new _ (ownT ⟨id, ow, ar, fr⟩ v) ⟨PA, PC, PB, PD⟩ _ (by simp) rfl rfl
    rintro e w6 ⟨A6, c6, rfl, h6, hb6⟩
    have HF6 : Hid (OpR (chL [k] [ownT ⟨id, ow, ar, fr⟩ v] L, 0) w (.returned (.tuple #[.slice A6 (chL [k] [ownT ⟨id, ow, ar, fr⟩ v] L).length c6, .int .i64 0])) w6) := Lib.hid ⟨A6, c6, rfl, h6, hb6⟩
    clear h6 hb6 hbb HB4
    go_wp2_with fail
    go_ret2
    rw [HV.out]; exact HF6.out
end Go.Proofs.YtngddecpfhlilaaGreat
namespace Go.Proofs.YtngddecpfhlilaaGreat
open Go.RowKit
noncomputable def atG (L : List Lt) (x y : Int) : Option Lt := L.find? fun t => hasRg t.ar x y
end Go.Proofs.YtngddecpfhlilaaGreat
