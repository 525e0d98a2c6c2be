/-
  Contracts of layer 13 (14): changed.
  Contracts of layer 13 (15): line.
-/
import Derived.Test.YtngddecpfhlilaaGreatD30
import Derived.Test.YtngddecpfhlilaaGreatD22
import Derived.Test.YtngddecpfhlilaaGreatWs
import Derived.Test.YtngddecpfhlilaaGreatD29
import Derived.Test.YtngddecpfhlilaaGreatD19
import Derived.Deep.RegionHeld3
set_option linter.unusedVariables false
set_option maxRecDepth 100000
namespace Go.Proofs.YtngddecpfhlilaaGreat
open Go.RowKit
theorem sortL13_any {v : Value} {X : List LtV} {w0 w : World} (h : TW v X w0 w) (hl : X.length ≤ 1099511627776) (ha : ∀ x ∈ X, LtS x.t) :
  ∃ A cap, v = .slice A X.length cap ∧ Calls Tryz.prog 134 #[.slice A X.length cap, .func (.func 135) #[] #[]] w fun e w' => e = .returned (.tuple #[]) ∧ ∃ R, R.Perm (tvS X) ∧ R.Pairwise (fun t u => t.id ≤ u.id) ∧ LtIn w' A cap R ∧ Below w0.heap.size w0 w' := by
 have hh := h.own
 have hlt := h.own.lt
 have hon := own_none (A := none) (c := 0) (World.ownsRow_nil w 0 40 4)
 rcases h.own.2 with ⟨rfl, h3⟩ | ⟨g, cap, cur, rfl, hB, hg, h4⟩
 ·have hz : X = [] := List.eq_nil_of_length_eq_zero h3
  subst hz
  refine ⟨none, 0, rfl, ?_⟩
  have hcon := Go.Proofs.AnyF.slices_SortFunc_none Go.Proofs.Tryz.laysSlF06_f134 none 0 (.func (.func 135) #[] #[]) w
  change Calls Tryz.prog 134 _ _ _ at hcon
  refine hcon.mono ?_
  rintro e w' ⟨rfl, rfl⟩
  exact ⟨rfl, [], List.Perm.refl _, List.Pairwise.nil, LtIn.nil _, h.bel⟩
 ·refine ⟨_, cap, rfl, ?_⟩
  refine (sortLt_any w0.heap.size g cap X w hh hl).mono ?_
  rintro e w' ⟨rfl, E, hp, hs, hc, hgr⟩
  have hlen := hp.length_eq
  refine ⟨rfl, tvS E, (hp.map _).symm, List.pairwise_map.2 hs, ⟨fun h0 => ⟨g, 0, rfl, Nat.lt_of_lt_of_le (hlt g rfl).2 hgr.size, fun j hj => ?_⟩, by rw [tvS_len]; omega, by rw [tvS_len, ← hlen]; exact h4.1, by have := h4.2.1; unfold maxLen at this; omega⟩, h.bel.grown hgr h.bel.size (fun k e => by cases e; exact hB)⟩
  rw [tvS_len] at hj
  have e : (tvS E)[j]'(by rw [tvS_len]; exact hj) = E[j].t := by simp [tvS]
  rw [e]
  have hm : E[j] ∈ X := hp.symm.subset (List.getElem_mem hj)
  have hk := ha _ hm
  obtain ⟨e0, e1, e2, e3⟩ := tvcells_at E j hj
  have c := fun i (hi : i < E.length * 4) => hc i hi
  have ka := own_kept hh (h.ar _ hm) (by decide) hgr
  have kb := own_kept hh (h.fr _ hm) (by decide) hgr
  rw [Nat.zero_add]
  exact ⟨E[j].p, ⟨(c _ (by omega)).trans e0, (c _ (by omega)).trans e1, (c _ (by omega)).trans e2, (c _ (by omega)).trans e3⟩, own_rin ka hk.1, own_nin kb hk.2, own_none ka, own_none kb⟩
def ChIs (G : List Int) (N L : List Lt) (w : World) (e : Ending) (w' : World) : Prop := ∃ A c R, e = .returned (.slice A R.length c) ∧ LtIn w' A c R ∧ R.Perm (wthL G L ++ N) ∧ R.Pairwise (fun t u => t.id ≤ u.id) ∧ Below w.heap.size w w'
theorem LtI.s {w : World} {t : Lt} {p : LtP} (h : LtI w t p) : LtS t := ⟨h.ar.len, h.fr.len⟩
set_option maxHeartbeats 32000000 in
theorem changed_any (A : Option Addr) (ca : Nat) (L : List Lt) (G : List Int) (AG : Option Addr) (cg : Nat) (N : List Lt) (AN : Option Addr) (cn : Nat) (w : World) (h1 : LtIn w A ca L) (h2 : NIn w AG cg G) (hG : Asc G) (h3 : LtIn w AN cn N) (hl : L.length ≤ 1073741824) (hl2 : N.length ≤ 1073741824) :
  Calls Tryz.prog 80 #[.slice A L.length ca, .slice AG G.length cg, .slice AN N.length cn] w (ChIs G N L w) := by
 obtain ⟨i1, hj9, hy0, hy1, hy2⟩ := info_parts infoLot
 have HIN := Lib.hid h1; have HG := Lib.hid h2; have HGA := Lib.hid hG; have HIN2 := Lib.hid h3
 clear h1 h2 hG h3
 have HG' : Hid (∃ ng, ng = G.length) := Lib.hid ⟨_, rfl⟩
 obtain ⟨ng, hng⟩ := HG'.out
 have HBS := Lib.hid (fun w' x (hb : Below w.heap.size w w') => show Calls Tryz.prog 109 #[.slice AG ng cg, .int .i64 x] w' (PosR G x w') from by rw [hng]; exact bs_any AG cg G x w' (HG.out.below hb) HGA.out)
 rw [← hng]
 clear hng HG'
 go_enter Tryz.func80, Tryz.ntmps80
 go_wp2_with fail
 go_loopw [7, 16] (fun v i wr => ∃ (k : Nat) (a : Value) (X : List LtV), k ≤ L.length ∧ i = .int .i64 k ∧ a = v ∧ Hid (TW a X w wr) ∧ Hid (tvS X = wthL G (L.take k)) ∧ Hid (X.length ≤ k) ∧ Hid (∀ x ∈ X, LtS x.t)) (fun _ i _ => L.length - (intOf i).toNat)
 case atStart => exact ⟨0, _, [], Nat.zero_le _, rfl, rfl, Lib.hid (TW.start (Below.refl _ _)), Lib.hid (by simp [tvS, wthL]), Lib.hid (by simp), Lib.hid (fun x hx => nomatch hx)⟩
 case round =>
  obtain ⟨k, v, X, hk, rfl, rfl, HK, HX, HZ, HS⟩ := hrel
  by_cases hlt : k < L.length
  ·have HBSk := Lib.hid (fun w' x (hb : Below wr.heap.size wr w') => HBS.out w' x (HK.out.bel.trans (hb.mono HK.out.bel.size)))
   obtain ⟨b, o, p, rfl, hb, ⟨x0, x1, x2, x3⟩, hi⟩ := HIN.out.at_ hlt
   have wc := fun o => HK.out.bel.cell (p := ⟨b, o, none⟩) hb
   have x0 := (wc _).trans x0; have x1 := (wc _).trans x1; have x2 := (wc _).trans x2; have x3 := (wc _).trans x3
   clear wc
   have n0 : (0 : Int) ≤ (k : Int) := by omega
   have n1 : (k : Int) < (L.length : Int) := by omega
   have hbs := HK.out.bel.size
   have HLI := Lib.hid (hi.below HK.out.bel)
   have HSS := Lib.hid hi.s
   clear hi
   have HWN := Lib.hid (fun (c : L[k].id ∉ G) => show wthL G (L.take (k + 1)) = wthL G (L.take k) ++ [L[k]] from by
    rw [← List.take_append_getElem hlt]; unfold wthL; rw [List.filter_append]; simp [c])
   have HWY := Lib.hid (fun (c : L[k].id ∈ G) => show wthL G (L.take (k + 1)) = wthL G (L.take k) from by
    rw [← List.take_append_getElem hlt]; unfold wthL; rw [List.filter_append]; simp [c])
   generalize L[k] = u at *
   obtain ⟨id, ow, ar, fr⟩ := u
   obtain ⟨PA, PC, PB, PD⟩ := p
   simp only at x0 x1 x2 x3 HWN HWY HLI HSS
   by_cases c : id ∈ G
   ·have hd := decide_eq_true c
    have HX2 := Lib.hid (HX.out.trans (HWY.out c).symm)
    clear HWN HWY c
    go_wp2_with fail
    refine (HBSk.out _ id (by (repeat' first | exact Below.refl _ _ | assumption | (apply below_drewN) | (refine Below.setCell ?_ (by (try simp); (try omega)) _) | (refine Below.alloc ?_ (by (try simp); (try omega)) _) | (refine Below.trans ?_ (Below.mono (Hid.out (by assumption)) (by (try simp); (try omega))))))).mono ?_
    rintro e w3 ⟨i, rfl, hi, q, rfl⟩
    rw [hd]
    clear hi
    go_wp2_with fail
    go_roundw
    case rel => exact ⟨k + 1, v, X, by omega, by go_num, rfl, Lib.hid (HK.out.go (by (repeat' first | exact Below.refl _ _ | assumption | (apply below_drewN) | (refine Below.setCell ?_ (by (try simp); (try omega)) _) | (refine Below.alloc ?_ (by (try simp); (try omega)) _) | (refine Below.trans ?_ (Below.mono (Hid.out (by assumption)) (by (try simp); (try omega))))))), HX2, Lib.hid (by have := HZ.out; omega), HS⟩
    case measure => simp [intOf]; omega
   ·have hd := decide_eq_false c
    have HX2 : Hid (∀ y : LtV, y.t = ⟨id, ow, ar, fr⟩ → tvS (X ++ [y]) = wthL G (L.take (k + 1))) := Lib.hid (fun y hy => by rw [tvS_append, HX.out, HWN.out c]; simp [tvS, hy])
    clear HWN HWY c
    go_wp2_with fail
    refine (HBSk.out _ id (by (repeat' first | exact Below.refl _ _ | assumption | (apply below_drewN) | (refine Below.setCell ?_ (by (try simp); (try omega)) _) | (refine Below.alloc ?_ (by (try simp); (try omega)) _) | (refine Below.trans ?_ (Below.mono (Hid.out (by assumption)) (by (try simp); (try omega))))))).mono ?_
    rintro e w3 ⟨i, rfl, hi, q, rfl⟩
    rw [hd]
    clear hi
    have HCL := Lib.hid (fun w' (hb : Below wr.heap.size wr w') => clone_any ⟨id, ow, ar, fr⟩ ⟨PA, PC, PB, PD⟩ w' (HLI.out.below hb))
    unfold lvl at HCL
    simp only at HCL
    go_wp2_with fail
    refine (HCL.out _ (by (repeat' first | exact Below.refl _ _ | assumption | (apply below_drewN) | (refine Below.setCell ?_ (by (try simp); (try omega)) _) | (refine Below.alloc ?_ (by (try simp); (try omega)) _) | (refine Below.trans ?_ (Below.mono (Hid.out (by assumption)) (by (try simp); (try omega))))))).mono ?_
    rintro e w5 ⟨⟨A5, c5, B5, d5⟩, rfl, hlo, hb5⟩
    have hbw5 : Below wr.heap.size wr w5 := Below.trans (by (repeat' first | exact Below.refl _ _ | assumption | (apply below_drewN) | (refine Below.setCell ?_ (by (try simp); (try omega)) _) | (refine Below.alloc ?_ (by (try simp); (try omega)) _) | (refine Below.trans ?_ (Below.mono (Hid.out (by assumption)) (by (try simp); (try omega)))))) (hb5.mono (by simp <;> omega))
    have HK5 := Lib.hid (HK.out.go hbw5)
    have HA5 := Lib.hid (own_base hlo.ar (B' := w.heap.size) (by simp <;> omega))
    have HN5 := Lib.hid (own_base hlo.fr (B' := w.heap.size) (by simp <;> omega))
    have hs5 : w.heap.size ≤ w5.heap.size := HK5.out.bel.size
    unfold lvl
    simp only at HA5 HN5 ⊢
    clear hb5 hlo hbw5
    go_wp2_with (at_builtin; refine wpList_append_own _ rfl _ _ 22 rfl w.heap.size 40 i1 (.agg #[.int .i64 0, .int .i64 0, .slice none 0 0, .slice none 0 0]) 4 64 Tryz.underlying22 hj9 hy0 hy1 hy2 rfl (by decide) _ _ _ rfl (HK5.out.own.alloc _) ⟨w5.heap.size, 0, none⟩ 1 1 [.int .i64 id, .int .i64 ow, .slice A5 ar.length c5, .slice B5 fr.length d5] rfl rfl ?d1 ?d2 ?d3 ?d4 ?d5 ?_)
    case d1 => exact World.news_of_block (cs := #[.int .i64 id, .int .i64 ow, .slice A5 ar.length c5, .slice B5 fr.length d5]) (t := 40) (fr := (0, 0)) (heap_alloc_new w5 _)
    case d2 => intro z hz; simp only [List.mem_cons, List.not_mem_nil, or_false] at hz; rcases hz with rfl | rfl | rfl | rfl <;> rfl
    case d3 => have := HZ.out; unfold maxLen; omega
    case d4 => have := HZ.out; omega
    case d5 => simp <;> omega
    intro v7 w7 hown7 hgr7 _
    have HK7 : Hid (TW v7 (X ++ [⟨⟨id, ow, ar, fr⟩, ⟨A5, c5, B5, d5⟩⟩]) w w7) := Lib.hid (TW.app (x := ⟨⟨id, ow, ar, fr⟩, ⟨A5, c5, B5, d5⟩⟩) (HK5.out.go ((Below.refl _ _).alloc (Nat.le_refl _) (.cells #[.int .i64 id, .int .i64 ow, .slice A5 ar.length c5, .slice B5 fr.length d5] 40))) (own_go HA5.out ((Below.refl _ _).alloc (Nat.le_refl _) _)) (own_go HN5.out ((Below.refl _ _).alloc (Nat.le_refl _) _)) hown7 hgr7)
    clear hown7 hgr7 HA5 HN5 HK5
    go_wp2_with fail
    go_roundw
    case rel => exact ⟨k + 1, v7, _, by omega, by go_num, rfl, HK7, Lib.hid (HX2.out _ rfl), Lib.hid (by have := HZ.out; simp; omega), Lib.hid (fun x hx => (List.mem_append.1 hx).elim (HS.out x) (fun hx => by rw [List.mem_singleton] at hx; subst hx; exact HSS.out))⟩
    case measure => simp [intOf]; omega
  ·obtain rfl : k = L.length := by omega
   rw [List.take_length] at HX
   have HZ1 := HZ
   have HS1 := HS
   have HNL : Hid (X.length ≤ L.length) := HZ
   clear HZ HS
   go_wp2_with fail
   go_loopw [7, 37] (fun v i wr => ∃ (k : Nat) (a : Value) (X : List LtV), k ≤ N.length ∧ i = .int .i64 k ∧ a = v ∧ Hid (TW a X w wr) ∧ Hid (tvS X = wthL G L ++ N.take k) ∧ Hid (X.length ≤ L.length + k) ∧ Hid (∀ x ∈ X, LtS x.t)) (fun _ i _ => N.length - (intOf i).toNat)
   case atStart => exact ⟨0, _, X, Nat.zero_le _, rfl, rfl, HK, Lib.hid (by rw [HX.out]; simp), Lib.hid (by have := HZ1.out; omega), HS1⟩
   case round =>
    clear HK HX HZ1 HS1 HNL
    obtain ⟨k, v, X, hk, rfl, rfl, HK, HX, HZ, HS⟩ := hrel
    by_cases hlt : k < N.length
    ·obtain ⟨b, o, p, rfl, hb, ⟨x0, x1, x2, x3⟩, hi⟩ := HIN2.out.at_ hlt
     have wc := fun o => HK.out.bel.cell (p := ⟨b, o, none⟩) hb
     have x0 := (wc _).trans x0; have x1 := (wc _).trans x1; have x2 := (wc _).trans x2; have x3 := (wc _).trans x3
     clear wc
     have n0 : (0 : Int) ≤ (k : Int) := by omega
     have n1 : (k : Int) < (N.length : Int) := by omega
     have hbs := HK.out.bel.size
     have HLI := Lib.hid (hi.below HK.out.bel)
     have HSS := Lib.hid hi.s
     clear hi
     have HWN := Lib.hid (show N.take (k + 1) = N.take k ++ [N[k]] from (List.take_append_getElem hlt).symm)
     generalize N[k] = u at *
     obtain ⟨id, ow, ar, fr⟩ := u
     obtain ⟨PA, PC, PB, PD⟩ := p
     simp only at x0 x1 x2 x3 HWN HLI HSS
     have HX2 : Hid (∀ y : LtV, y.t = ⟨id, ow, ar, fr⟩ → tvS (X ++ [y]) = wthL G L ++ N.take (k + 1)) := Lib.hid (fun y hy => by rw [tvS_append, HX.out, HWN.out]; simp [tvS, hy])
     clear HWN
     have HCL := Lib.hid (fun w' (hb : Below wr.heap.size wr w') => clone_any ⟨id, ow, ar, fr⟩ ⟨PA, PC, PB, PD⟩ w' (HLI.out.below hb))
     unfold lvl at HCL
     simp only at HCL
     go_wp2_with fail
     refine (HCL.out _ (by (repeat' first | exact Below.refl _ _ | assumption | (apply below_drewN) | (refine Below.setCell ?_ (by (try simp); (try omega)) _) | (refine Below.alloc ?_ (by (try simp); (try omega)) _) | (refine Below.trans ?_ (Below.mono (Hid.out (by assumption)) (by (try simp); (try omega))))))).mono ?_
     rintro e w5 ⟨⟨A5, c5, B5, d5⟩, rfl, hlo, hb5⟩
     have hbw5 : Below wr.heap.size wr w5 := Below.trans (by (repeat' first | exact Below.refl _ _ | assumption | (apply below_drewN) | (refine Below.setCell ?_ (by (try simp); (try omega)) _) | (refine Below.alloc ?_ (by (try simp); (try omega)) _) | (refine Below.trans ?_ (Below.mono (Hid.out (by assumption)) (by (try simp); (try omega)))))) (hb5.mono (by simp <;> omega))
     have HK5 := Lib.hid (HK.out.go hbw5)
     have HA5 := Lib.hid (own_base hlo.ar (B' := w.heap.size) (by simp <;> omega))
     have HN5 := Lib.hid (own_base hlo.fr (B' := w.heap.size) (by simp <;> omega))
     have hs5 : w.heap.size ≤ w5.heap.size := HK5.out.bel.size
     unfold lvl
     simp only at HA5 HN5 ⊢
     clear hb5 hlo hbw5
     go_wp2_with (at_builtin; refine wpList_append_own _ rfl _ _ 22 rfl w.heap.size 40 i1 (.agg #[.int .i64 0, .int .i64 0, .slice none 0 0, .slice none 0 0]) 4 64 Tryz.underlying22 hj9 hy0 hy1 hy2 rfl (by decide) _ _ _ rfl (HK5.out.own.alloc _) ⟨w5.heap.size, 0, none⟩ 1 1 [.int .i64 id, .int .i64 ow, .slice A5 ar.length c5, .slice B5 fr.length d5] rfl rfl ?d1 ?d2 ?d3 ?d4 ?d5 ?_)
     case d1 => exact World.news_of_block (cs := #[.int .i64 id, .int .i64 ow, .slice A5 ar.length c5, .slice B5 fr.length d5]) (t := 40) (fr := (0, 0)) (heap_alloc_new w5 _)
     case d2 => intro z hz; simp only [List.mem_cons, List.not_mem_nil, or_false] at hz; rcases hz with rfl | rfl | rfl | rfl <;> rfl
     case d3 => have := HZ.out; unfold maxLen; omega
     case d4 => have := HZ.out; omega
     case d5 => simp <;> omega
     intro v7 w7 hown7 hgr7 _
     have HK7 : Hid (TW v7 (X ++ [⟨⟨id, ow, ar, fr⟩, ⟨A5, c5, B5, d5⟩⟩]) w w7) := Lib.hid (TW.app (x := ⟨⟨id, ow, ar, fr⟩, ⟨A5, c5, B5, d5⟩⟩) (HK5.out.go ((Below.refl _ _).alloc (Nat.le_refl _) (.cells #[.int .i64 id, .int .i64 ow, .slice A5 ar.length c5, .slice B5 fr.length d5] 40))) (own_go HA5.out ((Below.refl _ _).alloc (Nat.le_refl _) _)) (own_go HN5.out ((Below.refl _ _).alloc (Nat.le_refl _) _)) hown7 hgr7)
     clear hown7 hgr7 HA5 HN5 HK5
     go_wp2_with fail
     go_roundw
     case rel => exact ⟨k + 1, v7, _, by omega, by go_num, rfl, HK7, Lib.hid (HX2.out _ rfl), Lib.hid (by have := HZ.out; simp; omega), Lib.hid (fun x hx => (List.mem_append.1 hx).elim (HS.out x) (fun hx => by rw [List.mem_singleton] at hx; subst hx; exact HSS.out))⟩
     case measure => simp [intOf]; omega
    ·obtain rfl : k = N.length := by omega
     rw [List.take_length] at HX
     obtain ⟨A9, c9, rfl, hso⟩ := sortL13_any HK.out (by have := HZ.out; omega) HS.out
     have HSO := Lib.hid hso; clear hso
     rw [HX.out] at HSO
     have HNX : Hid (X.length = (wthL G L ++ N).length) := Lib.hid (by rw [← HX.out, tvS_len])
     clear HK HX HZ HS
     generalize X.length = nx at *
     go_wp2_with fail
     refine HSO.out.mono ?_
     rintro e w8 ⟨rfl, R, hp, hs, hin, hb8⟩
     have HF : Hid (ChIs G N L w (.returned (.slice A9 nx c9)) w8) := Lib.hid ⟨A9, c9, R, by rw [HNX.out, hp.length_eq], hin, hp, hs, hb8⟩
     clear hp hs hin hb8 HSO HNX
     go_wp2_with fail
     go_ret
     obtain ⟨A2, c2, R2, e2, h2, h3, h4, h5⟩ := HF.out
     exact ⟨A2, c2, R2, e2, h2.below (by (repeat' first | exact Below.refl _ _ | assumption | (apply below_drewN) | (refine Below.setCell ?_ (by (try simp); (try omega)) _) | (refine Below.alloc ?_ (by (try simp); (try omega)) _) | (refine Below.trans ?_ (Below.mono (Hid.out (by assumption)) (by (try simp); (try omega)))))), h3, h4, h5.trans (by (repeat' first | exact Below.refl _ _ | assumption | (apply below_drewN) | (refine Below.setCell ?_ (by (try simp); (try omega)) _) | (refine Below.alloc ?_ (by (try simp); (try omega)) _) | (refine Below.trans ?_ (Below.mono (Hid.out (by assumption)) (by (try simp); (try omega))))))⟩
end Go.Proofs.YtngddecpfhlilaaGreat
namespace Go.Proofs.YtngddecpfhlilaaGreat
open Go.RowKit
theorem tkL8 {v : Value} {P : Program} {ops : Array Oper} {Q : Exit → Act → World → Prop} {md : Region.Mode} {S : World → Prop} {i : Nat} {oi : Oper} {fuel : Nat} {listed : Array Bool} {a : Act} {w : World} (hi : ops[i]? = some oi) (h : wpAnyH P md ops Q S fuel (listed.setIfInBounds i true) (a.put oi.dst v) w) (hy : ∀ w, S w → (execOp a.eval oi).run P w = .ok (.value v) w := by (intro w hSw; (try dsimp only at hSw); go_simp); try with_reducible rfl) (hs : Region.noSelect ops = true := by kernel_rfl) (hf : Region.free md ops listed i = true := by kernel_rfl) (hr : (Region.ready md ops listed).contains i = true := by kernel_rfl) (hQ : ∀ c a w, Q (.panic c) (a.put oi.dst v) w → Q (.panic c) a w := by exact fun _ _ _ h => h) (hg : Region.wanted oi (yielded ops a.tmps) = true := by rfl) (hS : S w := by assumption) : wpAnyH P md ops Q S (fuel + 1) listed a w :=
 wpAnyH_take hi hs hf hr hQ (Or.inl ⟨hg, hy⟩) hS h
theorem sxL8 : (∀ (a : Act) (v : Value), a.put none v = a) ∧ (∀ (a : Act) (d : Tmp) (v : Value), a.put (some d) v = { a with tmps := a.tmps.setIfInBounds d v }) ∧ (∀ {α : Type} (l : List α) (i : Nat) (x : α), l.toArray.setIfInBounds i x = (l.set i x).toArray) ∧ (∀ {α : Type} (l : List α) (x y : α), (x :: l).set 0 y = y :: l) ∧ (∀ {α : Type} (l : List α) (x y : α) (n : Nat), (x :: l).set (n + 1) y = x :: l.set n y) :=
 ⟨fun _ _ => rfl, fun _ _ _ => rfl, fun _ _ _ => List.setIfInBounds_toArray .., fun _ _ _ => rfl, fun _ _ _ _ => rfl⟩
def idsL (L : List Lt) : List Int := L.flatMap fun t => t.id :: t.fr
def lineS (L : List Lt) : List Int := sortS (idsL L)
def Pl13 (g : Nat) (id : Int) (v : Value) (w0 w' : World) : Prop := w'.cell? ⟨g, 0, none⟩ = some (.int .i64 id) ∧ w'.cell? ⟨g, 3, none⟩ = some v ∧ g < w'.heap.size ∧ Hid (w0.heap.size ≤ w'.heap.size)
theorem Pl13.go {g : Nat} {id : Int} {v : Value} {w0 w w' : World} (h : Pl13 g id v w0 w) (hb : Below w.heap.size w w') : Pl13 g id v w0 w' :=
 ⟨(hb.cell (p := ⟨g, 0, none⟩) h.2.2.1).trans h.1, (hb.cell (p := ⟨g, 3, none⟩) h.2.2.1).trans h.2.1, Nat.lt_of_lt_of_le h.2.2.1 hb.size, Lib.hid (Nat.le_trans h.2.2.2.out hb.size)⟩
theorem Pl13.grow {g : Nat} {id : Int} {v : Value} {w0 w w' : World} {k : Option Nat} (h : Pl13 g id v w0 w) (hg : w.grownBy w' k) (hk : some g ≠ k) : Pl13 g id v w0 w' := by
 have e := hg.block g h.2.2.1 hk
 exact ⟨(World.cell?_of_block e).trans h.1, (World.cell?_of_block e).trans h.2.1, Nat.lt_of_lt_of_le h.2.2.1 hg.size, Lib.hid (Nat.le_trans h.2.2.2.out hg.size)⟩
theorem app_nums {o : Oper} {a : Act} {w : World} {K : Act → World → Prop} {Q : Exit → Act → World → Prop} (s x : Operand) (t : TypeId)
  (ho : o.op = .call { callee := .builtin .append, args := #[s, x], argTypes := #[31, 31] }) (base : Nat) (i : TypeInfo) (hi : Tryz.prog.info? 3 = some i) (hz : i.zero = some (.int .i64 0)) (hsize : i.size = 1) (hby : i.bytes = 8)
  (v : Value) (n : Nat) (xs : List Value) (hs : a.eval s = v) (hown : w.ownsRow base 3 1 v n xs) (B : Option Addr) (fr : List Int) (D : Nat) (hx : a.eval x = .slice B fr.length D) (hN : NIn w B D fr) (hn : B = none → D = 0)
  (h63 : n + fr.length ≤ maxLen) (hbytes : (n + fr.length) * 8 ≤ 140737488355328) (hbase : base ≤ w.heap.size)
  (h : ∀ v' w', w'.ownsRow base 3 1 v' (n + fr.length) (xs ++ icells fr) → w.grownBy w' v.ownBlock → K (a.put o.dst v') w') : o.wp Tryz.prog a w K Q := by
 cases B with
 | none =>
  have h0 := hn rfl
  subst h0
  have h3 : fr = [] := List.eq_nil_of_length_eq_zero (by have := hN.room; omega)
  subst h3
  have hrun := run_append_owned_none (P := Tryz.prog) (w := w) base 31 o.type 3 i 1 (by first | rfl | kernel_rfl) hi v n xs hown
  unfold Oper.wp
  have hx' : a.eval x = .slice none 0 0 := hx
  simp [execOp, ho, resolve, invoke, builtin, hs, hx', hrun, Result.andThen]
  exact h v w (by simpa [icells] using hown) (World.grownBy.refl _ _)
 | some ad => exact wp_append_own w s x 31 ho base 3 i (.int .i64 0) 1 8 Tryz.underlying31 hi hz hsize hby rfl (by decide) v n xs hs hown ad fr.length D (icells fr) hx (by simp [icells]) hN.news (fun u hu => by obtain ⟨z, _, rfl⟩ := List.mem_map.1 hu; rfl) h63 hbytes hbase (fun v' w' h2 h3 _ => h v' w' h2 h3)
def LnIs (L : List Lt) (w : World) (e : Ending) (w' : World) : Prop := ∃ A c, e = .returned (.slice A (lineS L).length c) ∧ NIn w' A c (lineS L) ∧ (0 < (lineS L).length → A ≠ none) ∧ Below w.heap.size w w'
set_option maxHeartbeats 32000000 in
theorem line_any (A : Option Addr) (cap : Nat) (L : List Lt) (w : World) (h : LtIn w A cap L) (hs : (idsL L).length ≤ 274877906944) : Calls Tryz.prog 79 #[.slice A L.length cap] w (LnIs L w) := by
 obtain ⟨i0, hi9, hz0, hz1, hz2⟩ := info_parts infoInt
 have HL := Lib.hid h; clear h
 have hlen := HL.out.len
 have HZA : Hid (∀ k, (idsL (L.take k)).length ≤ 274877906944) := Lib.hid (fun k => by
  have e : idsL L = idsL (L.take k) ++ idsL (L.drop k) := by unfold idsL; rw [← List.flatMap_append, List.take_append_drop]
  rw [e, List.length_append] at hs; omega)
 have HS := Lib.hid hs; clear hs
 go_enter Tryz.func79, Tryz.ntmps79
 go_wp2_with fail
 go_loopw [3, 8] (fun v i wr => ∃ (k : Nat) (a : Value), k ≤ L.length ∧ i = .int .i64 k ∧ a = v ∧ Hid (OwnI a (idsL (L.take k)) w wr)) (fun _ i _ => L.length - (intOf i).toNat)
 case atStart => exact ⟨0, _, Nat.zero_le _, rfl, rfl, Lib.hid ⟨World.ownsRow_nil _ _ _ _, Below.refl _ _⟩⟩
 case round =>
  obtain ⟨k, v, hk, rfl, rfl, HK⟩ := hrel
  by_cases hlt : k < L.length
  ·obtain ⟨b, o, p, rfl, hb, ⟨x0, x1, x2, x3⟩, hi⟩ := HL.out.at_ hlt
   have wc := fun o => HK.out.bel.cell (p := ⟨b, o, none⟩) hb
   have x0 := (wc _).trans x0; have x1 := (wc _).trans x1; have x2 := (wc _).trans x2; have x3 := (wc _).trans x3
   clear wc
   have n0 : (0 : Int) ≤ (k : Int) := by omega
   have n1 : (k : Int) < (L.length : Int) := by omega
   have hbs := HK.out.bel.size
   have HNI := Lib.hid (fun w' (hb : Below w.heap.size w w') => hi.fr.below hb)
   have HBN := Lib.hid hi.bn
   have HNX : Hid (idsL (L.take (k + 1)) = idsL (L.take k) ++ [L[k].id] ++ L[k].fr) := Lib.hid (by rw [← List.take_append_getElem hlt]; unfold idsL; rw [List.flatMap_append]; simp)
   have hza := HZA.out (k + 1)
   rw [HNX.out] at hza
   simp only [List.length_append, List.length_cons, List.length_nil] at hza
   clear hi
   generalize L[k] = u at *
   obtain ⟨id, ow, ar, fr⟩ := u
   obtain ⟨PA, PC, PB, PD⟩ := p
   simp only at x0 x1 x2 x3 HNI HBN HNX hza
   obtain ⟨F, hF⟩ : ∃ F, F = idsL (L.take k) := ⟨_, rfl⟩
   rw [← hF] at HK HNX hza
   clear hF
   obtain ⟨wg, hwg⟩ : ∃ wg, wg = wr.alloc (.cells #[.int .i64 id, .int .i64 ow, .slice PA ar.length PC, .slice PB fr.length PD] 40) := ⟨_, rfl⟩
   have hbg : Below wr.heap.size wr wg := by rw [hwg]; exact (Below.refl _ _).alloc (Nat.le_refl _) _
   have hat : LtAt wg wr.heap.size ⟨id, ow, ar, fr⟩ ⟨PA, PC, PB, PD⟩ := by rw [hwg]; exact LtAt.new wr ⟨id, ow, ar, fr⟩ ⟨PA, PC, PB, PD⟩ wr.heap.size rfl rfl rfl
   have HKG := Lib.hid (⟨own_go HK.out.own hbg, HK.out.bel.trans (hbg.mono hbs)⟩ : OwnI v F w wg)
   have HGL : Hid (∀ kk, v.ownBlock = some kk → kk < wr.heap.size) := Lib.hid (fun kk e => (HK.out.own.lt kk e).2)
   have HWG := Lib.hid hwg
   have E5 : Hid (Pl13 wr.heap.size id (.slice PB fr.length PD) wg wg) := Lib.hid ⟨hat.c.1, hat.c.2.2.2, hat.lt, Lib.hid (Nat.le_refl _)⟩
   have hsg := hbg.size
   have hgl := hat.lt
   have HLAT := Lib.hid hat
   clear hat hwg hbg HK
   go_upto_region 5 with fail
   rw [← HWG.out]
   clear HWG
   obtain ⟨g, hg⟩ : ∃ g, g = wr.heap.size := ⟨_, rfl⟩
   rw [← hg] at E5 HGL hgl HLAT
   simp only [← hg]
   have hgg : g < wg.drew.heap.size + 1 := by have : wg.drew.heap.size = wg.heap.size := rfl; omega
   clear hg x0 x1 x2 x3
   have HOW : Hid ((wg.drew.alloc (.cells #[.int .i64 id] 3)).ownsRow w.heap.size 3 1 v F.length (icells F)) := Lib.hid ((HKG.out.drewN 1).own.alloc _)
   have HSZ : Hid (w.heap.size ≤ (wg.drew.alloc (.cells #[.int .i64 id] 3)).heap.size) := Lib.hid (by have := HKG.out.bel.size; simp; exact Nat.le_succ_of_le this)
   have HSZ2 : Hid (w.heap.size ≤ wg.heap.size) := Lib.hid HKG.out.bel.size
   have HAP : Hid (some g ≠ v.ownBlock) := Lib.hid (fun e => by have := HGL.out g e.symm; omega)
   have HGROW : Hid (∀ v6 w6, w6.ownsRow w.heap.size 3 1 v6 (F.length + 1) (icells F ++ [.int .i64 id]) → (wg.drew.alloc (.cells #[.int .i64 id] 3)).grownBy w6 v.ownBlock → (w6.ownsRow w.heap.size 3 1 v6 (F.length + 1) (icells F ++ [.int .i64 id]) ∧ some g ≠ v6.ownBlock ∧ (Pl13 g id (.slice PB fr.length PD) wg w6 → NIn w6 PB PD fr)) ∧ Below w.heap.size w w6) := Lib.hid (fun v6 w6 ho hgr => by
    have hb6 : Below w.heap.size w w6 := (HKG.out.bel.trans (((below_drewN (Below.refl _ wg) 1).alloc (Nat.le_refl _) _).mono HKG.out.bel.size)).grown hgr HSZ.out (fun kk e => (HOW.out.lt kk e).1)
    refine ⟨⟨ho, fun e => ?_, fun _ => HNI.out w6 hb6⟩, hb6⟩
    have h1 : w6.heap[g]? = some (.cells #[.int .i64 id, .int .i64 ow, .slice PA ar.length PC, .slice PB fr.length PD] 40 (0, 0)) := (hgr.block g (by rw [World.size_alloc]; exact hgg) HAP.out).trans ((((below_drewN (Below.refl _ wg) 1).alloc (Nat.le_refl _) (.cells #[.int .i64 id] 3)).block g hgl).trans HLAT.out)
    rcases ho.2 with ⟨e1, _⟩ | ⟨g2, cap2, cur2, e1, _, h2, _⟩
    ·rw [e1] at e; cases e
    ·rw [e1] at e
     have e2 : g = g2 := by simpa [Value.ownBlock] using e
     subst e2
     rw [h1] at h2
     cases h2)
   have HFIN : Hid (∀ v6 w6 v8 w8, (w6.ownsRow w.heap.size 3 1 v6 (F.length + 1) (icells F ++ [.int .i64 id]) ∧ some g ≠ v6.ownBlock ∧ (Pl13 g id (.slice PB fr.length PD) wg w6 → NIn w6 PB PD fr)) → Below w.heap.size w w6 → w8.ownsRow w.heap.size 3 1 v8 (F.length + 1 + fr.length) (icells F ++ [.int .i64 id] ++ icells fr) → w6.grownBy w8 v6.ownBlock → OwnI v8 (idsL (L.take (k + 1))) w w8) := Lib.hid (fun v6 w6 v8 w8 h6 hb6 h8 hg8 => by
    refine ⟨?_, hb6.grown hg8 hb6.size (fun kk e => (h6.1.lt kk e).1)⟩
    rw [HNX.out, List.length_append, List.length_append, show icells (F ++ [id] ++ fr) = icells F ++ [.int .i64 id] ++ icells fr by simp [icells]]
    exact h8)
   clear hgg
   refine wp_region_held_drew (S := (fun w' => w'.cell? ⟨g, 0, none⟩ = some (.int .i64 id) ∧ w'.cell? ⟨g, 3, none⟩ = some (.slice PB fr.length PD) ∧ g < w'.heap.size ∧ Hid (wg.heap.size ≤ w'.heap.size))) (by kernel_rfl) ?_ (fun hHeld => ?_)
   ·exact E5.out.go (below_drewN (Below.refl _ _) 1)
   refine tkL8 (i := 0) (oi := ⟨some 12, .move (.tmp 3), 31, "parcel.go:211", #[], none⟩) rfl ?_
   try simp only [sxL8]
   refine tkL8 (i := 1) (oi := ⟨some 13, .fieldAddr 40 (.tmp 5) 0, 0, "parcel.go:211", #[], none⟩) rfl ?_
   try simp only [sxL8]
   refine tkL8 (i := 2) (oi := ⟨some 14, .load 3 (.tmp 13), 3, "parcel.go:211", #[⟨1, .data⟩], none⟩) rfl ?_
   try simp only [sxL8]
   refine tkL8 (i := 5) (oi := ⟨some 17, .fieldAddr 40 (.tmp 5) 3, 0, "parcel.go:211", #[], none⟩) rfl ?_
   try simp only [sxL8]
   refine tkL8 (i := 6) (oi := ⟨some 18, .load 31 (.tmp 17), 31, "parcel.go:211", #[⟨5, .data⟩], none⟩) rfl ?_
   try simp only [sxL8]
   refine wpAnyH_ready (rs := [3]) (by kernel_rfl) (by simp) ?_
   refine AllReadyH.cons (o := ⟨some 15, .buildSlice 31 1 #[(0, .tmp 14)], 31, "parcel.go:211", #[⟨2, .data⟩], none⟩) rfl (fun Kx hKx => ?_) AllReadyH.nil
   go_simp
   refine hKx.out _ _ (Pl13.go ‹_› ((Below.refl _ _).alloc (Nat.le_refl _) _)) (fun hHeld2 => ?_)
   clear hKx Kx hHeld
   have hHeld := hHeld2; clear hHeld2
   try simp only [sxL8]
   refine wpAnyH_ready (rs := [4]) (by kernel_rfl) (by simp) ?_
   refine AllReadyH.cons (o := ⟨some 16, .call { callee := .builtin .append, args := #[.tmp 12, .tmp 15], argTypes := #[31, 31] }, 31, "parcel.go:211", #[⟨0, .data⟩, ⟨3, .data⟩], none⟩) rfl (fun Kx hKx => ?_) AllReadyH.nil
   try simp only [sxL8]
   refine wp_append_own _ (Operand.tmp 12) (Operand.tmp 15) 31 rfl w.heap.size 3 i0 (.int .i64 0) 1 8 Tryz.underlying31 hi9 hz0 hz1 hz2 rfl (by decide) v F.length (icells F) rfl HOW.out ⟨wg.drew.heap.size, 0, none⟩ 1 1 [.int .i64 id] rfl rfl ?d1 ?d2 ?d3 ?d4 ?d5 ?_
   case d1 => exact World.news_of_block (cs := #[.int .i64 id]) (t := 3) (fr := (0, 0)) (heap_alloc_new wg.drew _)
   case d2 => intro u hu; simp only [List.mem_cons, List.not_mem_nil, or_false] at hu; rcases hu with rfl; rfl
   case d3 => unfold maxLen; omega
   case d4 => omega
   case d5 => exact HSZ.out
   intro v6 w6 hown6 hgr6 _
   have HW6 := Lib.hid (HGROW.out v6 w6 hown6 hgr6)
   refine hKx.out _ _ (Pl13.grow ‹_› hgr6 HAP.out) (fun hHeld2 => ?_)
   clear hKx Kx hHeld hown6 hgr6
   have hHeld := hHeld2; clear hHeld2
   try simp only [sxL8]
   refine wpAnyH_ready (rs := [7]) (by kernel_rfl) (by simp) ?_
   refine AllReadyH.cons (o := ⟨some 19, .call { callee := .builtin .append, args := #[.tmp 16, .tmp 18], argTypes := #[31, 31] }, 31, "parcel.go:211", #[⟨4, .data⟩, ⟨6, .data⟩, ⟨4, .chain⟩], none⟩) rfl (fun Kx hKx => ?_) AllReadyH.nil
   try simp only [sxL8]
   obtain ⟨⟨ho6, hap6, hnx6⟩, hb66⟩ := HW6.out
   refine app_nums (Operand.tmp 16) (Operand.tmp 18) 31 rfl w.heap.size i0 hi9 hz0 hz1 hz2 v6 (F.length + 1) (icells F ++ [.int .i64 id]) rfl ho6 PB fr PD rfl (hnx6 hHeld) HBN.out ?e3 ?e4 ?e5 ?_
   case e3 => unfold maxLen; omega
   case e4 => omega
   case e5 => have := hHeld.2.2.2.out; have := HSZ2.out; omega
   intro v8 w8 hown8 hgr8
   have HW8 := Lib.hid (HFIN.out v6 w6 v8 w8 HW6.out.1 HW6.out.2 hown8 hgr8)
   refine hKx.out _ _ (Pl13.grow ‹_› hgr8 hap6) (fun hHeld2 => ?_)
   clear hKx Kx hHeld hown8 hgr8 ho6 hap6 hnx6 hb66
   have hHeld := hHeld2; clear hHeld2
   try simp only [sxL8]
   refine tkL8 (i := 8) (oi := ⟨some 3, .assign (.tmp 19), 31, "parcel.go:211", #[⟨7, .data⟩, ⟨7, .chain⟩, ⟨0, .phase⟩, ⟨1, .phase⟩, ⟨2, .phase⟩, ⟨3, .phase⟩, ⟨4, .phase⟩, ⟨5, .phase⟩, ⟨6, .phase⟩, ⟨7, .phase⟩], none⟩) rfl ?_
   try simp only [sxL8]
   refine wpAnyH_done (by kernel_rfl) ?_ _
   clear hHeld
   go_wp2_with fail
   go_roundw
   case rel => exact ⟨k + 1, v8, by omega, by go_num, rfl, HW8⟩
   case measure => simp [intOf]; omega
  ·obtain rfl : k = L.length := by omega
   rw [List.take_length] at HK
   obtain ⟨A9, c9, rfl, h1, h2, _⟩ := own_parts13 HK.out.own
   have HAS := Lib.hid (asc_any A9 c9 (idsL L) wr (own_nin HK.out.own (by have := HS.out; omega)))
   have HB := Lib.hid HK.out.bel
   clear HK
   generalize (idsL L).length = n9 at *
   go_wp2_with fail
   refine HAS.out.mono ?_
   rintro e w9 ⟨A8, c8, rfl, hn, hgg, hb⟩
   have HF : Hid (LnIs L w (.returned (.slice A8 (sortS (idsL L)).length c8)) w9) := Lib.hid ⟨A8, c8, rfl, hn, fun h => by obtain ⟨g, e, _⟩ := hgg h; rw [e]; simp, HB.out.trans (hb.mono HB.out.size)⟩
   clear hn hb HAS hgg
   go_wp2_with fail
   go_ret
   obtain ⟨A2, c2, e2, h2, h4, h5⟩ := HF.out
   exact ⟨A2, c2, e2, h2.below (by (repeat' first | exact Below.refl _ _ | assumption | (apply below_drewN) | (refine Below.setCell ?_ (by (try simp); (try omega)) _) | (refine Below.alloc ?_ (by (try simp); (try omega)) _) | (refine Below.trans ?_ (Below.mono (Hid.out (by assumption)) (by (try simp); (try omega)))))), h4, h5.trans (by (repeat' first | exact Below.refl _ _ | assumption | (apply below_drewN) | (refine Below.setCell ?_ (by (try simp); (try omega)) _) | (refine Below.alloc ?_ (by (try simp); (try omega)) _) | (refine Below.trans ?_ (Below.mono (Hid.out (by assumption)) (by (try simp); (try omega))))))⟩
end Go.Proofs.YtngddecpfhlilaaGreat
