/-
  Contracts of the program's layer 6 (10): form.
-/
import Derived.Test.YtngddecpfhlilaaGreatC09
import Derived.IntWalk
import Derived.BigQuiet
import Derived.Deep.RegionHeld3
import Derived.Deep.AppendLies
set_option linter.unusedVariables false
set_option maxRecDepth 100000
namespace Go.Proofs.YtngddecpfhlilaaGreat
open Go.RowKit
theorem tkHo {v : Value} {P : Program} {ops : Array Oper} {Q : Exit → Act → World → Prop} {md : Region.Mode} {S : World → Prop} {i : Nat} {oi : Oper} {fuel : Nat} {listed : Array Bool} {a : Act} {w : World} (hi : ops[i]? = some oi) (h : wpAnyH P md ops Q S fuel (listed.setIfInBounds i true) (a.put oi.dst v) w) (hy : ∀ w, S w → (execOp a.eval oi).run P w = .ok (.value v) w := by (intro w hSw; (try dsimp only at hSw); go_simp); try with_reducible rfl) (hs : Region.noSelect ops = true := by kernel_rfl) (hf : Region.free md ops listed i = true := by kernel_rfl) (hr : (Region.ready md ops listed).contains i = true := by kernel_rfl) (hQ : ∀ c a w, Q (.panic c) (a.put oi.dst v) w → Q (.panic c) a w := by exact fun _ _ _ h => h) (hg : Region.wanted oi (yielded ops a.tmps) = true := by rfl) (hS : S w := by assumption) : wpAnyH P md ops Q S (fuel + 1) listed a w :=
 wpAnyH_take hi hs hf hr hQ (Or.inl ⟨hg, hy⟩) hS h
theorem sxHo : (∀ (a : Act) (v : Value), a.put none v = a) ∧ (∀ (a : Act) (d : Tmp) (v : Value), a.put (some d) v = { a with tmps := a.tmps.setIfInBounds d v }) ∧ (∀ {α : Type} (l : List α) (i : Nat) (x : α), l.toArray.setIfInBounds i x = (l.set i x).toArray) ∧ (∀ {α : Type} (l : List α) (x y : α), (x :: l).set 0 y = y :: l) ∧ (∀ {α : Type} (l : List α) (x y : α) (n : Nat), (x :: l).set (n + 1) y = x :: l.set n y) :=
 ⟨fun _ _ => rfl, fun _ _ _ => rfl, fun _ _ _ => List.setIfInBounds_toArray .., fun _ _ _ => rfl, fun _ _ _ _ => rfl⟩
def FormRes (F : List Rc) (w : World) (e : Ending) (w' : World) : Prop := (F.length ≤ 200 ∧ ∃ v, e = .returned (.tuple #[v, .int .i64 0]) ∧ w'.ownsRow w.heap.size 68 4 v F.length (rcells F) ∧ Below w.heap.size w w') ∨ (200 < F.length ∧ e = .returned (.tuple #[.slice none 0 0, .int .i64 6]) ∧ Below w.heap.size w w')
structure FW (vf : Value) (F : List Rc) (w wr : World) : Prop where
 own : wr.ownsRow w.heap.size 68 4 vf F.length (rcells F)
 bel : Below w.heap.size w wr
 nil : F = [] → vf = .slice none 0 0
def Gx (gs i1 i2 : Nat) (x y : Int) (w0 w : World) : Prop := w.cell? ⟨gs, i1, none⟩ = some (.int .i64 x) ∧ w.cell? ⟨gs, i2, none⟩ = some (.int .i64 y) ∧ gs < w0.heap.size ∧ Hid (Below w0.heap.size w0 w)
theorem Gx.go {gs i1 i2 : Nat} {x y : Int} {w0 w w' : World} (h : Gx gs i1 i2 x y w0 w) (hb : Below w0.heap.size w w') : Gx gs i1 i2 x y w0 w' := by
 obtain ⟨h0, h1, h2, h4⟩ := h
 exact ⟨(hb.cell (p := ⟨gs, i1, none⟩) h2).trans h0, (hb.cell (p := ⟨gs, i2, none⟩) h2).trans h1, h2, Lib.hid (h4.out.trans hb)⟩
theorem Gx.drewN {gs i1 i2 : Nat} {x y : Int} {w0 w : World} (h : Gx gs i1 i2 x y w0 w) (n : Nat) : Gx gs i1 i2 x y w0 (w.drewN n) := h.go (below_drewN (Below.refl _ _) n)
theorem EdRow.mono {w : World} {B B' : Nat} {A : Option Addr} {E : List Ed} (h : EdRow w B A E) (hB : B ≤ B') : EdRow w B' A E := fun h0 => by
 obtain ⟨b, off, rfl, h1, h2, h3⟩ := h h0
 exact ⟨b, off, rfl, by omega, h2, h3⟩
def JoinW (F : List Rc) (w2 w3 : World) (e : Ending) (w' : World) : Prop := ∃ v', e = .returned v' ∧ FW v' F w2 w' ∧ Below w2.heap.size w3 w'
theorem round_join (T : List Slab) (a b : Int) (vf v : Value) (w2 wx W w3 : World) (Z : Obj) (T' : List Int) (hg : Grown T a) (hab : a < b) (hc : ColOk T') (hf : FW vf (flatS T) w2 wx) (hW : Below wx.heap.size wx W)
  (hown : w3.ownsRow (W.alloc Z).heap.size 68 4 v (rectsOf a b T').length (rcells (rectsOf a b T'))) (hb : Below W.heap.size (W.alloc Z) w3) (hl : (flatS T).length ≤ 200) :
  Calls Tryz.prog 121 #[vf, v] w3 (JoinW (flatS (stepF T a b T')) w2 w3) := by
 have hbx : Below wx.heap.size wx w3 := (hW.alloc hW.size Z).trans (hb.mono hW.size)
 have hsz := hf.bel.size
 have hs2 := hbx.size
 have hs3 := hW.size
 refine (gjoin_any T a b T' vf v w2.heap.size (W.alloc Z).heap.size w3 hg hab hc (own_go hf.own hbx) hown hf.nil (by omega) (fun g hg2 => ?_) (by omega) (col_rects_len hc a b)).mono ?_
 ·have := (hf.own.lt g hg2).2; simp; omega
 ·rintro e w' ⟨v', rfl, h1, h2, h3⟩
  exact ⟨v', rfl, ⟨h1, (hf.bel.trans (hbx.mono hsz)).trans h2, h3⟩, h2⟩
theorem made1 (w : World) : (w.alloc (.cells #[.int .i64 0] 3)).ownsRow w.heap.size 3 1 (.slice (some ⟨w.heap.size, 0, none⟩) 1 1) 1 (icells (List.replicate 1 0)) :=
 ⟨rfl, Or.inr ⟨w.heap.size, 1, #[.int .i64 0], rfl, Nat.le_refl _, heap_alloc_new w _, Nat.le_refl _, by unfold maxLen; omega, rfl, rfl⟩⟩
theorem mk1 (w : World) : Sem.run Tryz.prog (Instr.makeSlice 31 (.int .i64 1) (.int .i64 1)) w = .ok (.slice (some ⟨w.heap.size, 0, none⟩) 1 1) (w.alloc (.cells #[.int .i64 0] 3)) := by first | rfl | kernel_rfl
set_option maxHeartbeats 40000000 in
theorem gform1 (K : Nat) (eg : ∀ args w, (callFunc K args).run Tryz.prog w = .ok (.enter K args) w) (kp : List Int → Bool) (LL : List (List Rc)) (F : List Rc) (Al : Option Addr) (cl : Nat) (w : World)
  (hM : LL.length = 1) (hkp : KeepOk K kp 1) (h0 : ZeroK kp LL.length) (hLL : LRow w Al LL) (hl : ∀ l ∈ LL, ∀ r ∈ l, ROk r) (ht : total LL ≤ 400) (hF : IsForm F) (hK : ∀ x y, HasL F x y ↔ keptB kp LL x y = true) :
  Calls Tryz.prog 64 #[.func (.func K) #[] #[], .slice Al 1 cl] w (FormRes F w) := by
 obtain ⟨bl, ol, rfl, hbl, hLc⟩ := hLL (by omega)
 have HLC := Lib.hid hLc; have HM := Lib.hid hM; have HKP := Lib.hid hkp; have H0 := Lib.hid h0; have HL := Lib.hid hl; have HT := Lib.hid ht; have HF := Lib.hid hF; have HK := Lib.hid hK
 clear hLc hLL hM hkp h0 hl ht hF hK
 have B0 : Hid (BW (.slice none 0 0) (.slice none 0 0) (sidesAll (LL.take 0)) (edgesFrom 0 (LL.take 0)) w w) := Lib.hid ⟨World.ownsRow_nil _ _ _ _, World.ownsRow_nil _ _ _ _, Below.refl _ _⟩
 go_enter Tryz.func64, Tryz.ntmps64
 go_wp2
 go_loopw [6, 7, 16] (fun vs ve i wr => ∃ (k : Nat) (vs0 ve0 : Value), k ≤ 1 ∧ i = .int .i64 k ∧ vs0 = vs ∧ ve0 = ve ∧ Hid (BW vs0 ve0 (sidesAll (LL.take k)) (edgesFrom 0 (LL.take k)) w wr)) (fun _ _ i _ => 1 - (intOf i).toNat)
 case atStart => exact ⟨0, _, _, Nat.zero_le _, rfl, rfl, rfl, B0⟩
 case round =>
  clear B0
  obtain ⟨k, vs, ve, hk, rfl, rfl, rfl, HB⟩ := hrel
  by_cases hlt : k < 1
  ·have hkL : k < LL.length := by have := HM.out; omega
   obtain ⟨Aj, cj, hcj, hrow⟩ := HLC.out k hkL
   have hcj := (HB.out.bel.cell (p := ⟨bl, ol + k, none⟩) hbl).trans hcj
   have HROW := Lib.hid hrow; clear hrow
   have hjl : LL[k].length ≤ 400 := by
    have h1 := total_take LL k hkL LL[k].length (Nat.le_refl _)
    have := HT.out
    rw [List.length_append, sides_len, List.length_take] at h1; omega
   have HSA := Lib.hid (sidesAll_next LL k hkL)
   have HEA := Lib.hid (edgesAll_next LL k hkL)
   have HTT := Lib.hid (total_take LL k hkL)
   have hel := edges_sides (LL.take k) 0
   have HEL := Lib.hid hel; clear hel
   generalize LL[k] = L at *
   have j0 : (0 : Int) ≤ (k : Int) := by omega
   have j1 : (k : Int) < 1 := by omega
   have B1 : Hid (BW vs ve (sidesAll (LL.take k) ++ sides (L.take 0)) (edgesFrom 0 (LL.take k) ++ edgesOf k (L.take 0)) w wr) := Lib.hid (by
    have := HB.out
    rw [show sides (L.take 0) = [] from rfl, show edgesOf k (L.take 0) = [] from rfl, List.append_nil, List.append_nil]; exact this)
   clear HB
   go_wp2_with fail
   go_loopw [6, 7, 23] (fun vs1 ve1 i w2 => ∃ (j : Nat) (vs2 ve2 : Value), j ≤ L.length ∧ i = .int .i64 j ∧ vs2 = vs1 ∧ ve2 = ve1 ∧ Hid (BW vs2 ve2 (sidesAll (LL.take k) ++ sides (L.take j)) (edgesFrom 0 (LL.take k) ++ edgesOf k (L.take j)) w w2)) (fun _ _ i _ => L.length - (intOf i).toNat)
   case atStart => exact ⟨0, _, _, Nat.zero_le _, rfl, rfl, rfl, B1⟩
   case round =>
    clear B1
    obtain ⟨j, vs2, ve2, hj, rfl, rfl, rfl, HB⟩ := hrel
    by_cases hjt : j < L.length
    ·obtain ⟨b1, o1, rfl, hb1, hv1⟩ := HROW.out (by omega)
     obtain ⟨x0, x1, x2, x3⟩ := hv1 j hjt
     have wc := fun o => HB.out.bel.cell (p := ⟨b1, o, none⟩) hb1
     have x0 := (wc _).trans x0; have x1 := (wc _).trans x1; have x2 := (wc _).trans x2; have x3 := (wc _).trans x3
     clear hv1 wc
     have HSN := Lib.hid (sides_next L j hjt)
     have HEN := Lib.hid (edges_next k L j hjt)
     have htt : (sidesAll (LL.take k) ++ sides (L.take j)).length ≤ 800 := Nat.le_trans (HTT.out j (by omega)) (by have := HT.out; omega)
     have hee : (edgesFrom 0 (LL.take k) ++ edgesOf k (L.take j)).length = (sidesAll (LL.take k) ++ sides (L.take j)).length := by
      rw [List.length_append, List.length_append, HEL.out, edges_len, sides_len]
     have hee2 : (edgesFrom 0 (LL.take k) ++ edgesOf k (L.take j)).length ≤ 800 := by omega
     clear hee
     generalize L[j] = r at *
     generalize hS : sidesAll (LL.take k) ++ sides (L.take j) = S at *
     generalize hE : edgesFrom 0 (LL.take k) ++ edgesOf k (L.take j) = E at *
     have HS2 : Hid (sidesAll (LL.take k) ++ sides (L.take (j + 1)) = S ++ [r.X0, r.X1]) := Lib.hid (by rw [HSN.out, ← hS, List.append_assoc])
     have HE2 : Hid (edgesFrom 0 (LL.take k) ++ edgesOf k (L.take (j + 1)) = E ++ [⟨r.X0, r.X1, r.Y0, k, 1⟩, ⟨r.X0, r.X1, r.Y1, k, -1⟩]) := Lib.hid (by rw [HEN.out, ← hE, List.append_assoc])
     clear hS hE HSN HEN
     have l0 : (0 : Int) ≤ (j : Int) := by omega
     have l1 : (j : Int) < (L.length : Int) := by omega
     have HO1 := Lib.hid HB.out.own1
     have hsz := HB.out.bel.size
     obtain ⟨i0, hi9, hz0, hz1, hz2⟩ := info_parts infoInt
     go_wp2_with (at_builtin; refine wpList_append_own _ rfl _ _ 31 rfl w.heap.size 3 i0 (.int .i64 0) 1 8 Tryz.underlying31 hi9 hz0 hz1 hz2 rfl (by decide) _ _ _ rfl ((HO1.out.alloc _).alloc _) ⟨wr.heap.size + 1, 0, none⟩ 2 2 [.int .i64 r.X0, .int .i64 r.X1] rfl rfl ?c1 ?c2 ?c3 ?c4 ?c5 ?_)
     case c1 =>
      intro t u ht
      match t, ht with
      | 0, ht => simp at ht; subst ht; simp [Addr.add]
      | 1, ht => simp at ht; subst ht; simp [Addr.add]
     case c2 => intro u hu; simp at hu; rcases hu with rfl | rfl <;> rfl
     case c3 => unfold maxLen; omega
     case c4 => omega
     case c5 => simp; omega
     intro v3 w4 hown3 hgr3 _
     have hb3 : Below wr.heap.size wr ((wr.alloc (.cells #[.int .i64 r.X0, .int .i64 r.Y0, .int .i64 r.X1, .int .i64 r.Y1] 68)).alloc (.cells #[.int .i64 r.X0, .int .i64 r.X1] 3)) := ((Below.refl _ _).alloc (Nat.le_refl _) _).alloc (by simp) _
     have HB4 : Hid (BW v3 ve2 (S ++ [r.X0, r.X1]) E w w4) := Lib.hid ((HB.out.go hb3).add1 (by rw [icells_append, List.length_append]; exact hown3) hgr3)
     have hrc : RcAt w4 wr.heap.size r := by
      have h1 : RcAt ((wr.alloc (.cells #[.int .i64 r.X0, .int .i64 r.Y0, .int .i64 r.X1, .int .i64 r.Y1] 68)).alloc (.cells #[.int .i64 r.X0, .int .i64 r.X1] 3)) wr.heap.size r := (RcAt.new wr r _ rfl).alloc _
      refine (hgr3.block _ h1.lt (fun e => ?_)).trans h1
      have := (HB.out.own1.lt _ e.symm).2
      omega
     have y0 := hrc.cell0; have y1 := hrc.cell1; have y2 := hrc.cell2; have y3 := hrc.cell3; have yl := hrc.lt
     clear hown3 hgr3 hb3 hrc x0 x1 x2 x3 HO1 HB i0 hi9 hz0 hz1 hz2
     have HO2 := Lib.hid HB4.out.own2
     have hsz4 := HB4.out.bel.size
     obtain ⟨i0, hi9, hz0, hz1, hz2⟩ := info_parts infoEdge
     go_wp2_with (at_builtin; refine wpList_append_own _ rfl _ _ 128 rfl w.heap.size 130 i0 (.agg #[.int .i64 0, .int .i64 0, .int .i64 0, .int .i64 0, .int .i64 0]) 5 40 Tryz.underlying128 hi9 hz0 hz1 hz2 rfl (by decide) _ _ _ rfl (HO2.out.alloc _) ⟨w4.heap.size, 0, none⟩ 2 2 [.int .i64 r.X0, .int .i64 r.X1, .int .i64 r.Y0, .int .i64 (k : Int), .int .i64 1, .int .i64 r.X0, .int .i64 r.X1, .int .i64 r.Y1, .int .i64 (k : Int), .int .i64 (-1)] rfl rfl ?d1 ?d2 ?d3 ?d4 ?d5 ?_)
     case d1 => exact World.news_of_block (cs := #[.int .i64 r.X0, .int .i64 r.X1, .int .i64 r.Y0, .int .i64 (k : Int), .int .i64 1, .int .i64 r.X0, .int .i64 r.X1, .int .i64 r.Y1, .int .i64 (k : Int), .int .i64 (-1)]) (t := 130) (fr := (0, 0)) (heap_alloc_new w4 _)
     case d2 => intro u hu; simp only [List.mem_cons, List.not_mem_nil, or_false] at hu; rcases hu with rfl | rfl | rfl | rfl | rfl | rfl | rfl | rfl | rfl | rfl <;> rfl
     case d3 => unfold maxLen; omega
     case d4 => omega
     case d5 => simp; omega
     intro v5 w6 hown5 hgr5 _
     have HB6 : Hid (BW v3 v5 (S ++ [r.X0, r.X1]) (E ++ [⟨r.X0, r.X1, r.Y0, k, 1⟩, ⟨r.X0, r.X1, r.Y1, k, -1⟩]) w w6) := Lib.hid ((HB4.out.go ((Below.refl _ _).alloc (Nat.le_refl _) _)).add2 (by rw [ecells_append, List.length_append]; exact hown5) hgr5)
     clear hown5 hgr5 HB4 HO2 y0 y1 y2 y3
     go_wp2_with fail
     go_roundw
     case rel => exact ⟨j + 1, _, _, by omega, by go_num, rfl, rfl, by rw [HS2.out, HE2.out]; exact HB6⟩
     case measure => simp [intOf]; omega
    ·obtain rfl : j = L.length := by omega
     have HB9 : Hid (BW vs2 ve2 (sidesAll (LL.take (k + 1))) (edgesFrom 0 (LL.take (k + 1))) w wr) := Lib.hid (by
      have := HB.out
      rw [List.take_length] at this
      rw [HSA.out, HEA.out]; exact this)
     clear HB HSA HEA
     go_wp2_with fail
     go_roundw
     case rel => exact ⟨k + 1, _, _, by omega, by go_num, rfl, rfl, HB9⟩
     case measure => simp [intOf]; omega
  ·obtain rfl : k = 1 := by omega
   have hB9 : BW vs ve (sidesAll LL) (edgesFrom 0 LL) w wr := by
    have := HB.out
    rw [← HM.out, List.take_length] at this; exact this
   have hsl : (sidesAll LL).length ≤ 800 := by rw [sidesAll_len]; have := HT.out; omega
   have hel : (edgesFrom 0 LL).length ≤ 800 := by rw [edges_sides]; exact hsl
   obtain ⟨As, cs, hvs, _, hAs⟩ := own_ints hB9.own1
   obtain ⟨Ae, ce, hve, hAe⟩ := own_eds hB9.own2
   have HS1 := Lib.hid (gsort_all _ vs (sidesAll LL) wr hB9.own1 (by omega))
   have HB9 := Lib.hid hB9
   have HVS := Lib.hid hvs; have HVE := Lib.hid hve; have HAS := Lib.hid hAs; have HAE := Lib.hid hAe
   have HELN := Lib.hid (edges_sides LL 0)
   clear hB9 hvs hve hAs hAe HB hlt
   go_wp2_with fail
   refine HS1.out.mono ?_
   rintro e1 w1 ⟨rfl, S, hp, hs, hrow, hgr⟩
   have hown2 : w1.ownsRow w.heap.size 130 5 ve (edgesFrom 0 LL).length (ecells (edgesFrom 0 LL)) := own_kept HB9.out.own1 HB9.out.own2 (by decide) hgr
   have HBL1 := Lib.hid (Below.grown HB9.out.bel hgr HB9.out.bel.size (fun k hk => (HB9.out.own1.lt k hk).1))
   have HRW := Lib.hid (hrow As _ cs HVS.out)
   have HP := Lib.hid hp; have HSS := Lib.hid hs
   have HS2 := Lib.hid (gsortf_all _ ve (edgesFrom 0 LL) w1 hown2 (by omega))
   have HO2 := Lib.hid hown2
   clear hp hs hrow hgr hown2 HS1
   go_wp2_with fail
   refine HS2.out.mono ?_
   rintro e2 w2 ⟨rfl, E, hE, hSE, herow, hgr⟩
   have HER := Lib.hid (herow Ae _ ce HVE.out)
   have HIR : Hid (IRow w2 As S) := Lib.hid (fun hS0 => irow_kept HRW.out hgr (fun g o e => by
    intro h
    subst e
    obtain ⟨g', e', _, _⟩ := HAS.out (by rw [← HP.out.length_eq]; exact hS0)
    injection e' with e'
    injection e' with e1 e2
    subst e1
    exact own_apart HB9.out.own1 HB9.out.own2 (by decide) g (by rw [HVS.out]; rfl) h.symm) hS0)
   have HBL2 := Lib.hid (Below.grown HBL1.out hgr HBL1.out.size (fun k hk => (HO2.out.lt k hk).1))
   have hEl := hE.length_eq
   have hSl := HP.out.length_eq.symm
   have hE8 : E.length ≤ 800 := by rw [← hEl]; exact hel
   have hS8 : S.length ≤ 800 := by rw [← hSl]; exact hsl
   have h1 := HVS.out; have h2 := HVE.out
   clear herow hgr HRW HBL1 HO2 HS2 HB9 HVS HVE HAS HAE HELN
   subst h1; subst h2
   rw [hEl, hSl]
   have HPE := Lib.hid hE
   have HSIDE := Lib.hid (sides_of HL.out H0.out HSS.out HP.out)
   have HCOLE := Lib.hid (col_ex HL.out H0.out HSS.out HP.out hE hSE)
   have HEOK : Hid (EdsOk E 1) := Lib.hid ⟨hSE, fun e he => by
    obtain ⟨q1, q2, _, _, q3⟩ := from_grid HL.out (hE.mem_iff.2 he)
    exact ⟨q1, by have := HM.out; omega, q3⟩, by omega⟩
   have HZ : Hid (∀ a b j, sumE (ctE a b j) E = 0) := Lib.hid (fun a b j => sum_all _ _ _ hE (sum_wholes _ _ _ _ _))
   have HTELL : Hid (∀ a b, a < b → (∀ l ∈ LL, GapAB a b l) → TellsK (keptB kp LL a) kp a b 1 E) := Lib.hid (fun a b hab hg => by
    have := tells (kp := kp) hab HL.out hg hE
    rw [HM.out] at this; exact this)
   have HGAP : Hid (∀ j (h : j + 1 < S.length), ∀ l ∈ LL, GapAB S[j] S[j + 1] l) := Lib.hid (fun j h => gapAB HSS.out HP.out h)
   clear hE hSE hEl hSl hel hsl HP
   have F0 : Hid (FW (.slice none 0 0) (flatS []) w2 w2) := Lib.hid ⟨World.ownsRow_nil _ _ _ _, Below.refl _ _, fun _ => rfl⟩
   have S0 : Hid (0 < S.length → FmAt (keptB kp LL) S 0 []) := Lib.hid (fun _ => FmAt.start HSIDE.out)
   go_wp2_with fail
   go_loopw [12, 13] (fun vf i wr => ∃ (k : Nat) (T : List Slab) (vf0 : Value), k ≤ S.length - 1 ∧ i = .int .i64 ((k + 1 : Nat) : Int) ∧ vf0 = vf ∧ Hid (0 < S.length → FmAt (keptB kp LL) S k T) ∧ Hid (S.length = 0 → T = []) ∧ Hid (FW vf0 (flatS T) w2 wr) ∧ (flatS T).length ≤ 200) (fun _ i _ => S.length + 1 - (intOf i).toNat)
   case atStart => exact ⟨0, [], _, Nat.zero_le _, rfl, rfl, S0, Lib.hid (fun _ => rfl), F0, by simp [flatS]⟩
   case round =>
    clear F0 S0
    obtain ⟨k, T, vf, hk, rfl, rfl, HFM, HN, HFW, hT2⟩ := hrel
    by_cases hlt : k + 1 < S.length
    ·obtain ⟨gs, os, rfl, hgs, hcs⟩ := HIR.out (by omega)
     have ya := hcs k (by omega)
     have yb := hcs (k + 1) hlt
     have ya := (HFW.out.bel.cell (p := ⟨gs, os + k, none⟩) hgs).trans ya
     have yb := (HFW.out.bel.cell (p := ⟨gs, os + (k + 1), none⟩) hgs).trans yb
     have HFM := Lib.hid (HFM.out (by omega))
     clear hcs
     have q0 : (0 : Int) ≤ (k : Int) := by omega
     have q1 : IntKind.i64.wrap (k : Int) = (k : Int) := IntWalk.i64_in _ (by omega)
     have q2 : (k : Int) < (S.length : Int) := by omega
     have q3 : (0 : Int) ≤ (k : Int) + 1 := by omega
     have q4 : (k : Int) + 1 < (S.length : Int) := by omega
     have q5 : ((k : Int) + 1).toNat = k + 1 := by omega
     by_cases heq : S[k] = S[k + 1]
     ·have d0 : (S[k] == S[k + 1]) = true := by rw [beq_iff_eq]; exact heq
      have NEW := Lib.hid (fun (_ : 0 < S.length) => HFM.out.skip hlt heq)
      clear heq HFM
      generalize S[k]'(Nat.lt_of_succ_lt hlt) = xa at *
      generalize S[k + 1] = xb at *
      go_wp2_with fail
      go_quiet (fail)
      clear q1 q5
      go_wp2_with fail
      go_roundw
      case rel => exact ⟨k + 1, T, _, by omega, by go_num, rfl, NEW, HN, Lib.hid ⟨own_go HFW.out.own (below_drewN (Below.refl _ _) _), below_drewN HFW.out.bel _, HFW.out.nil⟩, hT2⟩
      case measure => simp [intOf]; omega
     ·have d0 : (S[k] == S[k + 1]) = false := by rw [beq_eq_false_iff_ne]; exact heq
      have hab : S[k] < S[k + 1] := by have := HSS.out k (k + 1) (by omega) hlt (by omega); omega
      have NEW : Hid (∀ c, ColOk c → (∀ y, inT c y = keptB kp LL S[k] y) → FmAt (keptB kp LL) S (k + 1) (stepF T S[k] S[k + 1] c)) := Lib.hid (fun c hc hin => HFM.out.step HSIDE.out hlt heq hc hin)
      have HGR := Lib.hid (HFM.out.grown (by omega))
      have HTK := Lib.hid (HTELL.out S[k] S[k + 1] hab (HGAP.out k hlt))
      have OVER : Hid (∀ T', FmAt (keptB kp LL) S (k + 1) T' → (flatS T').length ≤ F.length) := Lib.hid (fun T' h => FmAt.le' HSIDE.out HCOLE.out HF.out HK.out (S.length - 1 - (k + 1)) (k + 1) T' (by omega) h)
      have HAB := Lib.hid hab
      clear heq HFM hab
      generalize S[k]'(Nat.lt_of_succ_lt hlt) = xa at *
      generalize S[k + 1] = xb at *
      go_wp2_with fail
      go_quiet (fail)
      go_wp2_with fail
      generalize hwx : World.drewN wr _ = wx at *
      have HFX : Hid (FW vf (flatS T) w2 wx) := Lib.hid (by rw [← hwx]; exact ⟨own_go HFW.out.own (below_drewN (Below.refl _ _) _), below_drewN HFW.out.bel _, HFW.out.nil⟩)
      have E0 : Hid (Gx gs (os + k) (os + (k + 1)) xa xb w2 wx) := Lib.hid (by rw [← hwx]; exact ⟨ya, yb, hgs, Lib.hid (below_drewN HFW.out.bel _)⟩)
      clear hwx HFW ya yb d0
      have hwsz := HFX.out.bel.size
      have HCOL : Hid (∀ W, Below wx.heap.size wx W → Calls Tryz.prog 122 #[.slice Ae E.length ce, .int .i64 xa, .int .i64 xb, .func (.func K) #[] #[], .slice (some ⟨W.heap.size, 0, none⟩) 1 1] (W.alloc (.cells #[.int .i64 0] 3)) (ColRes (keptB kp LL xa) xa xb W.heap.size (W.alloc (.cells #[.int .i64 0] 3)))) := Lib.hid (fun W hb => by
       have hbz : Below w2.heap.size w2 (W.alloc (.cells #[.int .i64 0] 3)) := HFX.out.bel.trans ((hb.alloc hb.size _).mono hwsz)
       exact gcol_any K eg kp 1 W.heap.size 1 ce E xa xb _ Ae _ HKP.out ((HER.out.below hbz (Nat.le_refl _)).mono (Nat.le_trans hwsz hb.size)) HEOK.out HTK.out (by have := H0.out; rwa [HM.out] at this) (HZ.out xa xb) (by omega) (made1 W))
      refine wp_region_held_drew (S := fun w' => w'.cell? ⟨gs, os + k, none⟩ = some (.int .i64 xa) ∧ w'.cell? ⟨gs, os + (k + 1), none⟩ = some (.int .i64 xb) ∧ gs < w2.heap.size ∧ Hid (Below w2.heap.size w2 w')) (by kernel_rfl) ?_ (fun hHeld => ?_)
      ·exact Gx.drewN E0.out 1
      refine tkHo (i := 0) (oi := ⟨some 75, .move (.tmp 12), 30, "region.go:202", #[], none⟩) rfl ?_
      try simp only [sxHo]
      refine tkHo (i := 1) (oi := ⟨some 76, .move (.tmp 7), 128, "region.go:202", #[], none⟩) rfl ?_
      try simp only [sxHo]
      refine tkHo (i := 2) (oi := ⟨some 77, .move (.tmp 6), 31, "region.go:202", #[], none⟩) rfl ?_
      try simp only [sxHo]
      refine tkHo (i := 3) (oi := ⟨some 78, .move (.tmp 13), 3, "region.go:202", #[], none⟩) rfl ?_
      try simp only [sxHo]
      refine tkHo (i := 4) (oi := ⟨some 79, .binOp .sub 3 (.tmp 78) (.const (.int .i64 1)) 3, 3, "region.go:202", #[⟨3, .data⟩], none⟩) rfl ?_
      try simp only [sxHo]
      refine tkHo (i := 5) (oi := ⟨some 80, .indexAddr 31 (.tmp 77) (.tmp 79), 0, "region.go:202", #[⟨2, .data⟩, ⟨4, .data⟩], none⟩) rfl ?_
      try simp only [sxHo]
      refine tkHo (i := 6) (oi := ⟨some 81, .load 3 (.tmp 80), 3, "region.go:202", #[⟨5, .data⟩], none⟩) rfl ?_
      try simp only [sxHo]
      refine tkHo (i := 7) (oi := ⟨some 82, .move (.tmp 6), 31, "region.go:202", #[], none⟩) rfl ?_
      try simp only [sxHo]
      refine tkHo (i := 8) (oi := ⟨some 83, .move (.tmp 13), 3, "region.go:202", #[], none⟩) rfl ?_
      try simp only [sxHo]
      refine tkHo (i := 9) (oi := ⟨some 84, .indexAddr 31 (.tmp 82) (.tmp 83), 0, "region.go:202", #[⟨7, .data⟩, ⟨8, .data⟩], none⟩) rfl ?_
      try simp only [sxHo]
      refine tkHo (i := 10) (oi := ⟨some 85, .load 3 (.tmp 84), 3, "region.go:202", #[⟨9, .data⟩], none⟩) rfl ?_
      try simp only [sxHo]
      refine tkHo (i := 11) (oi := ⟨some 86, .move (.tmp 0), 89, "region.go:202", #[], none⟩) rfl ?_
      try simp only [sxHo]
      refine tkHo (i := 12) (oi := ⟨some 87, .move (.tmp 1), 108, "region.go:202", #[], none⟩) rfl ?_
      try simp only [sxHo]
      refine tkHo (i := 13) (oi := ⟨some 88, .call { callee := .builtin .len, args := #[.tmp 87], argTypes := #[108] }, 3, "region.go:202", #[⟨12, .data⟩], none⟩) rfl ?_
      try simp only [sxHo]
      clear q1 q5
      refine wpAnyH_ready (rs := [14]) (by kernel_rfl) (by simp) ?_
      refine AllReadyH.cons (o := ⟨some 89, .makeSlice 31 (.tmp 88) (.tmp 88), 31, "region.go:202", #[⟨13, .data⟩, ⟨13, .data⟩], none⟩) rfl (fun Kx hKx => ?_) AllReadyH.nil
      go_simp
      rw [mk1 wx.drew]
      go_simp
      refine hKx.out _ _ (show Gx gs (os + k) (os + (k + 1)) xa xb w2 (wx.drew.alloc (.cells #[.int .i64 0] 3)) from Gx.go ‹_› ((Below.refl w2.heap.size wx.drew).alloc (show w2.heap.size ≤ wx.drew.heap.size from hwsz) _)) (fun hHeld2 => ?_)
      clear hKx Kx hHeld
      have hHeld := hHeld2; clear hHeld2
      try simp only [sxHo]
      refine wpAnyH_ready (rs := [15]) (by kernel_rfl) (by simp) ?_
      refine AllReadyH.cons (o := ⟨some 90, .call { callee := .value (.func 122), args := #[.tmp 76, .tmp 81, .tmp 85, .tmp 86, .tmp 89], argTypes := #[128, 3, 3, 89, 31] }, 30, "region.go:202", #[⟨1, .data⟩, ⟨6, .data⟩, ⟨10, .data⟩, ⟨11, .data⟩, ⟨14, .data⟩], none⟩) rfl (fun Kx hKx => ?_) AllReadyH.nil
      go_simp
      go_at_call 122
      refine (HCOL.out wx.drew (Below.refl _ _).drew).mono ?_
      rintro e3 w3 ⟨v3, T3, rfl, hc3, hin3, hown3, hb3⟩
      try go_wp2_with fail
      refine hKx.out _ _ (Gx.go ‹_› (hb3.mono (by simp; omega))) (fun hHeld2 => ?_)
      clear hKx Kx hHeld
      have hHeld := hHeld2; clear hHeld2
      have HJ := Lib.hid (round_join T xa xb vf v3 w2 wx wx.drew w3 _ T3 HGR.out HAB.out hc3 HFX.out (Below.refl _ _).drew hown3 hb3 hT2)
      have HNW := Lib.hid (NEW.out T3 hc3 hin3)
      clear hc3 hin3 hown3 hb3 HCOL NEW
      try simp only [sxHo]
      refine wpAnyH_ready (rs := [16]) (by kernel_rfl) (by simp) ?_
      refine AllReadyH.cons (o := ⟨some 91, .call { callee := .value (.func 121), args := #[.tmp 75, .tmp 90], argTypes := #[30, 30] }, 30, "region.go:202", #[⟨0, .data⟩, ⟨15, .data⟩, ⟨15, .chain⟩], none⟩) rfl (fun Kx hKx => ?_) AllReadyH.nil
      go_simp
      go_at_call 121
      refine HJ.out.mono ?_
      rintro e4 w4 ⟨v4, rfl, hfw4, hb4⟩
      try go_wp2_with fail
      refine hKx.out _ _ (Gx.go ‹_› hb4) (fun hHeld2 => ?_)
      clear hKx Kx hHeld hb4 HJ
      have hHeld := hHeld2; clear hHeld2
      obtain ⟨A4, c4, rfl, _, _, _, _, _⟩ := own_rects hfw4.own
      have HF4 := Lib.hid hfw4; clear hfw4
      try simp only [sxHo]
      refine tkHo (i := 17) (oi := ⟨some 12, .assign (.tmp 91), 30, "region.go:202", #[⟨16, .data⟩, ⟨16, .chain⟩, ⟨0, .phase⟩, ⟨1, .phase⟩, ⟨2, .phase⟩, ⟨3, .phase⟩, ⟨4, .phase⟩, ⟨5, .phase⟩, ⟨6, .phase⟩, ⟨7, .phase⟩, ⟨8, .phase⟩, ⟨9, .phase⟩, ⟨10, .phase⟩, ⟨11, .phase⟩, ⟨12, .phase⟩, ⟨13, .phase⟩, ⟨14, .phase⟩, ⟨15, .phase⟩, ⟨16, .phase⟩], none⟩) rfl ?_
      try simp only [sxHo]
      refine wpAnyH_done (by kernel_rfl) ?_ _
      clear hHeld E0 HFX
      have HOV := Lib.hid (OVER.out _ HNW.out)
      clear OVER
      by_cases h200 : 200 < (flatS (stepF T xa xb T3)).length
      ·have FIN : Hid (FormRes F w (.returned (.tuple #[.slice none 0 0, .int .i64 6])) w4) := Lib.hid (Or.inr ⟨Nat.lt_of_lt_of_le h200 HOV.out, rfl, HBL2.out.trans (HF4.out.bel.mono HBL2.out.size)⟩)
       have s1 : (200 : Int) < (((flatS (stepF T xa xb T3)).length : Nat) : Int) := by omega
       clear HF4 HOV HNW
       go_wp2_with fail
       go_ret2
       exact FIN.out
      ·have s1 : ¬ (200 : Int) < (((flatS (stepF T xa xb T3)).length : Nat) : Int) := by omega
       have hle4 : (flatS (stepF T xa xb T3)).length ≤ 200 := by omega
       have HFMN := Lib.hid (fun (_ : 0 < S.length) => HNW.out)
       have HNN : Hid (S.length = 0 → stepF T xa xb T3 = []) := Lib.hid (fun h => by omega)
       clear HOV HNW h200
       generalize stepF T xa xb T3 = T4 at *
       go_wp2_with fail
       go_roundw
       case rel => exact ⟨k + 1, T4, _, by omega, by go_num, rfl, HFMN, HNN, HF4, hle4⟩
       case measure => simp [intOf]; omega
    ·have hkk : k = S.length - 1 := by omega
     have FIN : Hid (FormRes F w (.returned (.tuple #[vf, .int .i64 0])) wr) := Lib.hid (by
      have e : flatS T = F := by
       rcases Nat.eq_zero_or_pos S.length with h0 | h0
       ·have hT := HN.out h0
        subst hT
        refine form_eq ⟨[], trivial, rfl⟩ HF.out (fun x y => ⟨fun ⟨r, hr, _⟩ => (by cases hr), fun h => ?_⟩)
        have h2 := (HK.out x y).1 h
        obtain ⟨⟨h3, _⟩, _⟩ := HSIDE.out.out x y h2
        omega
       ·have h1 := HFM.out h0
        rw [hkk] at h1
        obtain ⟨h2, h3⟩ := h1.done HSIDE.out h0
        exact form_eq ⟨T, h2, rfl⟩ HF.out (fun x y => by rw [flat_has h2, h3, HK.out])
      refine Or.inl ⟨by rw [← e]; exact hT2, vf, rfl, ?_, HBL2.out.trans (HFW.out.bel.mono HBL2.out.size)⟩
      rw [← e]
      exact own_base HFW.out.own HBL2.out.size)
     have q4 : ¬ (k : Int) + 1 < (S.length : Int) := by omega
     clear HFM HFW HN
     go_wp2_with fail
     go_ret2
     exact FIN.out
theorem made2 (w : World) : (w.alloc (.cells #[.int .i64 0, .int .i64 0] 3)).ownsRow w.heap.size 3 1 (.slice (some ⟨w.heap.size, 0, none⟩) 2 2) 2 (icells (List.replicate 2 0)) :=
 ⟨rfl, Or.inr ⟨w.heap.size, 2, #[.int .i64 0, .int .i64 0], rfl, Nat.le_refl _, heap_alloc_new w _, Nat.le_refl _, by unfold maxLen; omega, rfl, rfl⟩⟩
theorem mk2 (w : World) : Sem.run Tryz.prog (Instr.makeSlice 31 (.int .i64 2) (.int .i64 2)) w = .ok (.slice (some ⟨w.heap.size, 0, none⟩) 2 2) (w.alloc (.cells #[.int .i64 0, .int .i64 0] 3)) := by first | rfl | kernel_rfl
set_option maxHeartbeats 40000000 in
theorem gform2 (K : Nat) (eg : ∀ args w, (callFunc K args).run Tryz.prog w = .ok (.enter K args) w) (kp : List Int → Bool) (LL : List (List Rc)) (F : List Rc) (Al : Option Addr) (cl : Nat) (w : World)
  (hM : LL.length = 2) (hkp : KeepOk K kp 2) (h0 : ZeroK kp LL.length) (hLL : LRow w Al LL) (hl : ∀ l ∈ LL, ∀ r ∈ l, ROk r) (ht : total LL ≤ 400) (hF : IsForm F) (hK : ∀ x y, HasL F x y ↔ keptB kp LL x y = true) :
  Calls Tryz.prog 64 #[.func (.func K) #[] #[], .slice Al 2 cl] w (FormRes F w) := by
 obtain ⟨bl, ol, rfl, hbl, hLc⟩ := hLL (by omega)
 have HLC := Lib.hid hLc; have HM := Lib.hid hM; have HKP := Lib.hid hkp; have H0 := Lib.hid h0; have HL := Lib.hid hl; have HT := Lib.hid ht; have HF := Lib.hid hF; have HK := Lib.hid hK
 clear hLc hLL hM hkp h0 hl ht hF hK
 have B0 : Hid (BW (.slice none 0 0) (.slice none 0 0) (sidesAll (LL.take 0)) (edgesFrom 0 (LL.take 0)) w w) := Lib.hid ⟨World.ownsRow_nil _ _ _ _, World.ownsRow_nil _ _ _ _, Below.refl _ _⟩
 go_enter Tryz.func64, Tryz.ntmps64
 go_wp2
 go_loopw [6, 7, 16] (fun vs ve i wr => ∃ (k : Nat) (vs0 ve0 : Value), k ≤ 2 ∧ i = .int .i64 k ∧ vs0 = vs ∧ ve0 = ve ∧ Hid (BW vs0 ve0 (sidesAll (LL.take k)) (edgesFrom 0 (LL.take k)) w wr)) (fun _ _ i _ => 2 - (intOf i).toNat)
 case atStart => exact ⟨0, _, _, Nat.zero_le _, rfl, rfl, rfl, B0⟩
 case round =>
  clear B0
  obtain ⟨k, vs, ve, hk, rfl, rfl, rfl, HB⟩ := hrel
  by_cases hlt : k < 2
  ·have hkL : k < LL.length := by have := HM.out; omega
   obtain ⟨Aj, cj, hcj, hrow⟩ := HLC.out k hkL
   have hcj := (HB.out.bel.cell (p := ⟨bl, ol + k, none⟩) hbl).trans hcj
   have HROW := Lib.hid hrow; clear hrow
   have hjl : LL[k].length ≤ 400 := by
    have h1 := total_take LL k hkL LL[k].length (Nat.le_refl _)
    have := HT.out
    rw [List.length_append, sides_len, List.length_take] at h1; omega
   have HSA := Lib.hid (sidesAll_next LL k hkL)
   have HEA := Lib.hid (edgesAll_next LL k hkL)
   have HTT := Lib.hid (total_take LL k hkL)
   have hel := edges_sides (LL.take k) 0
   have HEL := Lib.hid hel; clear hel
   generalize LL[k] = L at *
   have j0 : (0 : Int) ≤ (k : Int) := by omega
   have j1 : (k : Int) < 2 := by omega
   have B1 : Hid (BW vs ve (sidesAll (LL.take k) ++ sides (L.take 0)) (edgesFrom 0 (LL.take k) ++ edgesOf k (L.take 0)) w wr) := Lib.hid (by
    have := HB.out
    rw [show sides (L.take 0) = [] from rfl, show edgesOf k (L.take 0) = [] from rfl, List.append_nil, List.append_nil]; exact this)
   clear HB
   go_wp2_with fail
   go_loopw [6, 7, 23] (fun vs1 ve1 i w2 => ∃ (j : Nat) (vs2 ve2 : Value), j ≤ L.length ∧ i = .int .i64 j ∧ vs2 = vs1 ∧ ve2 = ve1 ∧ Hid (BW vs2 ve2 (sidesAll (LL.take k) ++ sides (L.take j)) (edgesFrom 0 (LL.take k) ++ edgesOf k (L.take j)) w w2)) (fun _ _ i _ => L.length - (intOf i).toNat)
   case atStart => exact ⟨0, _, _, Nat.zero_le _, rfl, rfl, rfl, B1⟩
   case round =>
    clear B1
    obtain ⟨j, vs2, ve2, hj, rfl, rfl, rfl, HB⟩ := hrel
    by_cases hjt : j < L.length
    ·obtain ⟨b1, o1, rfl, hb1, hv1⟩ := HROW.out (by omega)
     obtain ⟨x0, x1, x2, x3⟩ := hv1 j hjt
     have wc := fun o => HB.out.bel.cell (p := ⟨b1, o, none⟩) hb1
     have x0 := (wc _).trans x0; have x1 := (wc _).trans x1; have x2 := (wc _).trans x2; have x3 := (wc _).trans x3
     clear hv1 wc
     have HSN := Lib.hid (sides_next L j hjt)
     have HEN := Lib.hid (edges_next k L j hjt)
     have htt : (sidesAll (LL.take k) ++ sides (L.take j)).length ≤ 800 := Nat.le_trans (HTT.out j (by omega)) (by have := HT.out; omega)
     have hee : (edgesFrom 0 (LL.take k) ++ edgesOf k (L.take j)).length = (sidesAll (LL.take k) ++ sides (L.take j)).length := by
      rw [List.length_append, List.length_append, HEL.out, edges_len, sides_len]
     have hee2 : (edgesFrom 0 (LL.take k) ++ edgesOf k (L.take j)).length ≤ 800 := by omega
     clear hee
     generalize L[j] = r at *
     generalize hS : sidesAll (LL.take k) ++ sides (L.take j) = S at *
     generalize hE : edgesFrom 0 (LL.take k) ++ edgesOf k (L.take j) = E at *
     have HS2 : Hid (sidesAll (LL.take k) ++ sides (L.take (j + 1)) = S ++ [r.X0, r.X1]) := Lib.hid (by rw [HSN.out, ← hS, List.append_assoc])
     have HE2 : Hid (edgesFrom 0 (LL.take k) ++ edgesOf k (L.take (j + 1)) = E ++ [⟨r.X0, r.X1, r.Y0, k, 1⟩, ⟨r.X0, r.X1, r.Y1, k, -1⟩]) := Lib.hid (by rw [HEN.out, ← hE, List.append_assoc])
     clear hS hE HSN HEN
     have l0 : (0 : Int) ≤ (j : Int) := by omega
     have l1 : (j : Int) < (L.length : Int) := by omega
     have HO1 := Lib.hid HB.out.own1
     have hsz := HB.out.bel.size
     obtain ⟨i0, hi9, hz0, hz1, hz2⟩ := info_parts infoInt
     go_wp2_with (at_builtin; refine wpList_append_own _ rfl _ _ 31 rfl w.heap.size 3 i0 (.int .i64 0) 1 8 Tryz.underlying31 hi9 hz0 hz1 hz2 rfl (by decide) _ _ _ rfl ((HO1.out.alloc _).alloc _) ⟨wr.heap.size + 1, 0, none⟩ 2 2 [.int .i64 r.X0, .int .i64 r.X1] rfl rfl ?c1 ?c2 ?c3 ?c4 ?c5 ?_)
     case c1 =>
      intro t u ht
      match t, ht with
      | 0, ht => simp at ht; subst ht; simp [Addr.add]
      | 1, ht => simp at ht; subst ht; simp [Addr.add]
     case c2 => intro u hu; simp at hu; rcases hu with rfl | rfl <;> rfl
     case c3 => unfold maxLen; omega
     case c4 => omega
     case c5 => simp; omega
     intro v3 w4 hown3 hgr3 _
     have hb3 : Below wr.heap.size wr ((wr.alloc (.cells #[.int .i64 r.X0, .int .i64 r.Y0, .int .i64 r.X1, .int .i64 r.Y1] 68)).alloc (.cells #[.int .i64 r.X0, .int .i64 r.X1] 3)) := ((Below.refl _ _).alloc (Nat.le_refl _) _).alloc (by simp) _
     have HB4 : Hid (BW v3 ve2 (S ++ [r.X0, r.X1]) E w w4) := Lib.hid ((HB.out.go hb3).add1 (by rw [icells_append, List.length_append]; exact hown3) hgr3)
     have hrc : RcAt w4 wr.heap.size r := by
      have h1 : RcAt ((wr.alloc (.cells #[.int .i64 r.X0, .int .i64 r.Y0, .int .i64 r.X1, .int .i64 r.Y1] 68)).alloc (.cells #[.int .i64 r.X0, .int .i64 r.X1] 3)) wr.heap.size r := (RcAt.new wr r _ rfl).alloc _
      refine (hgr3.block _ h1.lt (fun e => ?_)).trans h1
      have := (HB.out.own1.lt _ e.symm).2
      omega
     have y0 := hrc.cell0; have y1 := hrc.cell1; have y2 := hrc.cell2; have y3 := hrc.cell3; have yl := hrc.lt
     clear hown3 hgr3 hb3 hrc x0 x1 x2 x3 HO1 HB i0 hi9 hz0 hz1 hz2
     have HO2 := Lib.hid HB4.out.own2
     have hsz4 := HB4.out.bel.size
     obtain ⟨i0, hi9, hz0, hz1, hz2⟩ := info_parts infoEdge
     go_wp2_with (at_builtin; refine wpList_append_own _ rfl _ _ 128 rfl w.heap.size 130 i0 (.agg #[.int .i64 0, .int .i64 0, .int .i64 0, .int .i64 0, .int .i64 0]) 5 40 Tryz.underlying128 hi9 hz0 hz1 hz2 rfl (by decide) _ _ _ rfl (HO2.out.alloc _) ⟨w4.heap.size, 0, none⟩ 2 2 [.int .i64 r.X0, .int .i64 r.X1, .int .i64 r.Y0, .int .i64 (k : Int), .int .i64 1, .int .i64 r.X0, .int .i64 r.X1, .int .i64 r.Y1, .int .i64 (k : Int), .int .i64 (-1)] rfl rfl ?d1 ?d2 ?d3 ?d4 ?d5 ?_)
     case d1 => exact World.news_of_block (cs := #[.int .i64 r.X0, .int .i64 r.X1, .int .i64 r.Y0, .int .i64 (k : Int), .int .i64 1, .int .i64 r.X0, .int .i64 r.X1, .int .i64 r.Y1, .int .i64 (k : Int), .int .i64 (-1)]) (t := 130) (fr := (0, 0)) (heap_alloc_new w4 _)
     case d2 => intro u hu; simp only [List.mem_cons, List.not_mem_nil, or_false] at hu; rcases hu with rfl | rfl | rfl | rfl | rfl | rfl | rfl | rfl | rfl | rfl <;> rfl
     case d3 => unfold maxLen; omega
     case d4 => omega
     case d5 => simp; omega
     intro v5 w6 hown5 hgr5 _
     have HB6 : Hid (BW v3 v5 (S ++ [r.X0, r.X1]) (E ++ [⟨r.X0, r.X1, r.Y0, k, 1⟩, ⟨r.X0, r.X1, r.Y1, k, -1⟩]) w w6) := Lib.hid ((HB4.out.go ((Below.refl _ _).alloc (Nat.le_refl _) _)).add2 (by rw [ecells_append, List.length_append]; exact hown5) hgr5)
     clear hown5 hgr5 HB4 HO2 y0 y1 y2 y3
     go_wp2_with fail
     go_roundw
     case rel => exact ⟨j + 1, _, _, by omega, by go_num, rfl, rfl, by rw [HS2.out, HE2.out]; exact HB6⟩
     case measure => simp [intOf]; omega
    ·obtain rfl : j = L.length := by omega
     have HB9 : Hid (BW vs2 ve2 (sidesAll (LL.take (k + 1))) (edgesFrom 0 (LL.take (k + 1))) w wr) := Lib.hid (by
      have := HB.out
      rw [List.take_length] at this
      rw [HSA.out, HEA.out]; exact this)
     clear HB HSA HEA
     go_wp2_with fail
     go_roundw
     case rel => exact ⟨k + 1, _, _, by omega, by go_num, rfl, rfl, HB9⟩
     case measure => simp [intOf]; omega
  ·obtain rfl : k = 2 := by omega
   have hB9 : BW vs ve (sidesAll LL) (edgesFrom 0 LL) w wr := by
    have := HB.out
    rw [← HM.out, List.take_length] at this; exact this
   have hsl : (sidesAll LL).length ≤ 800 := by rw [sidesAll_len]; have := HT.out; omega
   have hel : (edgesFrom 0 LL).length ≤ 800 := by rw [edges_sides]; exact hsl
   obtain ⟨As, cs, hvs, _, hAs⟩ := own_ints hB9.own1
   obtain ⟨Ae, ce, hve, hAe⟩ := own_eds hB9.own2
   have HS1 := Lib.hid (gsort_all _ vs (sidesAll LL) wr hB9.own1 (by omega))
   have HB9 := Lib.hid hB9
   have HVS := Lib.hid hvs; have HVE := Lib.hid hve; have HAS := Lib.hid hAs; have HAE := Lib.hid hAe
   have HELN := Lib.hid (edges_sides LL 0)
   clear hB9 hvs hve hAs hAe HB hlt
   go_wp2_with fail
   refine HS1.out.mono ?_
   rintro e1 w1 ⟨rfl, S, hp, hs, hrow, hgr⟩
   have hown2 : w1.ownsRow w.heap.size 130 5 ve (edgesFrom 0 LL).length (ecells (edgesFrom 0 LL)) := own_kept HB9.out.own1 HB9.out.own2 (by decide) hgr
   have HBL1 := Lib.hid (Below.grown HB9.out.bel hgr HB9.out.bel.size (fun k hk => (HB9.out.own1.lt k hk).1))
   have HRW := Lib.hid (hrow As _ cs HVS.out)
   have HP := Lib.hid hp; have HSS := Lib.hid hs
   have HS2 := Lib.hid (gsortf_all _ ve (edgesFrom 0 LL) w1 hown2 (by omega))
   have HO2 := Lib.hid hown2
   clear hp hs hrow hgr hown2 HS1
   go_wp2_with fail
   refine HS2.out.mono ?_
   rintro e2 w2 ⟨rfl, E, hE, hSE, herow, hgr⟩
   have HER := Lib.hid (herow Ae _ ce HVE.out)
   have HIR : Hid (IRow w2 As S) := Lib.hid (fun hS0 => irow_kept HRW.out hgr (fun g o e => by
    intro h
    subst e
    obtain ⟨g', e', _, _⟩ := HAS.out (by rw [← HP.out.length_eq]; exact hS0)
    injection e' with e'
    injection e' with e1 e2
    subst e1
    exact own_apart HB9.out.own1 HB9.out.own2 (by decide) g (by rw [HVS.out]; rfl) h.symm) hS0)
   have HBL2 := Lib.hid (Below.grown HBL1.out hgr HBL1.out.size (fun k hk => (HO2.out.lt k hk).1))
   have hEl := hE.length_eq
   have hSl := HP.out.length_eq.symm
   have hE8 : E.length ≤ 800 := by rw [← hEl]; exact hel
   have hS8 : S.length ≤ 800 := by rw [← hSl]; exact hsl
   have h1 := HVS.out; have h2 := HVE.out
   clear herow hgr HRW HBL1 HO2 HS2 HB9 HVS HVE HAS HAE HELN
   subst h1; subst h2
   rw [hEl, hSl]
   have HPE := Lib.hid hE
   have HSIDE := Lib.hid (sides_of HL.out H0.out HSS.out HP.out)
   have HCOLE := Lib.hid (col_ex HL.out H0.out HSS.out HP.out hE hSE)
   have HEOK : Hid (EdsOk E 2) := Lib.hid ⟨hSE, fun e he => by
    obtain ⟨q1, q2, _, _, q3⟩ := from_grid HL.out (hE.mem_iff.2 he)
    exact ⟨q1, by have := HM.out; omega, q3⟩, by omega⟩
   have HZ : Hid (∀ a b j, sumE (ctE a b j) E = 0) := Lib.hid (fun a b j => sum_all _ _ _ hE (sum_wholes _ _ _ _ _))
   have HTELL : Hid (∀ a b, a < b → (∀ l ∈ LL, GapAB a b l) → TellsK (keptB kp LL a) kp a b 2 E) := Lib.hid (fun a b hab hg => by
    have := tells (kp := kp) hab HL.out hg hE
    rw [HM.out] at this; exact this)
   have HGAP : Hid (∀ j (h : j + 1 < S.length), ∀ l ∈ LL, GapAB S[j] S[j + 1] l) := Lib.hid (fun j h => gapAB HSS.out HP.out h)
   clear hE hSE hEl hSl hel hsl HP
   have F0 : Hid (FW (.slice none 0 0) (flatS []) w2 w2) := Lib.hid ⟨World.ownsRow_nil _ _ _ _, Below.refl _ _, fun _ => rfl⟩
   have S0 : Hid (0 < S.length → FmAt (keptB kp LL) S 0 []) := Lib.hid (fun _ => FmAt.start HSIDE.out)
   go_wp2_with fail
   go_loopw [12, 13] (fun vf i wr => ∃ (k : Nat) (T : List Slab) (vf0 : Value), k ≤ S.length - 1 ∧ i = .int .i64 ((k + 1 : Nat) : Int) ∧ vf0 = vf ∧ Hid (0 < S.length → FmAt (keptB kp LL) S k T) ∧ Hid (S.length = 0 → T = []) ∧ Hid (FW vf0 (flatS T) w2 wr) ∧ (flatS T).length ≤ 200) (fun _ i _ => S.length + 1 - (intOf i).toNat)
   case atStart => exact ⟨0, [], _, Nat.zero_le _, rfl, rfl, S0, Lib.hid (fun _ => rfl), F0, by simp [flatS]⟩
   case round =>
    clear F0 S0
    obtain ⟨k, T, vf, hk, rfl, rfl, HFM, HN, HFW, hT2⟩ := hrel
    by_cases hlt : k + 1 < S.length
    ·obtain ⟨gs, os, rfl, hgs, hcs⟩ := HIR.out (by omega)
     have ya := hcs k (by omega)
     have yb := hcs (k + 1) hlt
     have ya := (HFW.out.bel.cell (p := ⟨gs, os + k, none⟩) hgs).trans ya
     have yb := (HFW.out.bel.cell (p := ⟨gs, os + (k + 1), none⟩) hgs).trans yb
     have HFM := Lib.hid (HFM.out (by omega))
     clear hcs
     have q0 : (0 : Int) ≤ (k : Int) := by omega
     have q1 : IntKind.i64.wrap (k : Int) = (k : Int) := IntWalk.i64_in _ (by omega)
     have q2 : (k : Int) < (S.length : Int) := by omega
     have q3 : (0 : Int) ≤ (k : Int) + 1 := by omega
     have q4 : (k : Int) + 1 < (S.length : Int) := by omega
     have q5 : ((k : Int) + 1).toNat = k + 1 := by omega
     by_cases heq : S[k] = S[k + 1]
     ·have d0 : (S[k] == S[k + 1]) = true := by rw [beq_iff_eq]; exact heq
      have NEW := Lib.hid (fun (_ : 0 < S.length) => HFM.out.skip hlt heq)
      clear heq HFM
      generalize S[k]'(Nat.lt_of_succ_lt hlt) = xa at *
      generalize S[k + 1] = xb at *
      go_wp2_with fail
      go_quiet (fail)
      clear q1 q5
      go_wp2_with fail
      go_roundw
      case rel => exact ⟨k + 1, T, _, by omega, by go_num, rfl, NEW, HN, Lib.hid ⟨own_go HFW.out.own (below_drewN (Below.refl _ _) _), below_drewN HFW.out.bel _, HFW.out.nil⟩, hT2⟩
      case measure => simp [intOf]; omega
     ·have d0 : (S[k] == S[k + 1]) = false := by rw [beq_eq_false_iff_ne]; exact heq
      have hab : S[k] < S[k + 1] := by have := HSS.out k (k + 1) (by omega) hlt (by omega); omega
      have NEW : Hid (∀ c, ColOk c → (∀ y, inT c y = keptB kp LL S[k] y) → FmAt (keptB kp LL) S (k + 1) (stepF T S[k] S[k + 1] c)) := Lib.hid (fun c hc hin => HFM.out.step HSIDE.out hlt heq hc hin)
      have HGR := Lib.hid (HFM.out.grown (by omega))
      have HTK := Lib.hid (HTELL.out S[k] S[k + 1] hab (HGAP.out k hlt))
      have OVER : Hid (∀ T', FmAt (keptB kp LL) S (k + 1) T' → (flatS T').length ≤ F.length) := Lib.hid (fun T' h => FmAt.le' HSIDE.out HCOLE.out HF.out HK.out (S.length - 1 - (k + 1)) (k + 1) T' (by omega) h)
      have HAB := Lib.hid hab
      clear heq HFM hab
      generalize S[k]'(Nat.lt_of_succ_lt hlt) = xa at *
      generalize S[k + 1] = xb at *
      go_wp2_with fail
      go_quiet (fail)
      go_wp2_with fail
      generalize hwx : World.drewN wr _ = wx at *
      have HFX : Hid (FW vf (flatS T) w2 wx) := Lib.hid (by rw [← hwx]; exact ⟨own_go HFW.out.own (below_drewN (Below.refl _ _) _), below_drewN HFW.out.bel _, HFW.out.nil⟩)
      have E0 : Hid (Gx gs (os + k) (os + (k + 1)) xa xb w2 wx) := Lib.hid (by rw [← hwx]; exact ⟨ya, yb, hgs, Lib.hid (below_drewN HFW.out.bel _)⟩)
      clear hwx HFW ya yb d0
      have hwsz := HFX.out.bel.size
      have HCOL : Hid (∀ W, Below wx.heap.size wx W → Calls Tryz.prog 122 #[.slice Ae E.length ce, .int .i64 xa, .int .i64 xb, .func (.func K) #[] #[], .slice (some ⟨W.heap.size, 0, none⟩) 2 2] (W.alloc (.cells #[.int .i64 0, .int .i64 0] 3)) (ColRes (keptB kp LL xa) xa xb W.heap.size (W.alloc (.cells #[.int .i64 0, .int .i64 0] 3)))) := Lib.hid (fun W hb => by
       have hbz : Below w2.heap.size w2 (W.alloc (.cells #[.int .i64 0, .int .i64 0] 3)) := HFX.out.bel.trans ((hb.alloc hb.size _).mono hwsz)
       exact gcol_any K eg kp 2 W.heap.size 2 ce E xa xb _ Ae _ HKP.out ((HER.out.below hbz (Nat.le_refl _)).mono (Nat.le_trans hwsz hb.size)) HEOK.out HTK.out (by have := H0.out; rwa [HM.out] at this) (HZ.out xa xb) (by omega) (made2 W))
      refine wp_region_held_drew (S := fun w' => w'.cell? ⟨gs, os + k, none⟩ = some (.int .i64 xa) ∧ w'.cell? ⟨gs, os + (k + 1), none⟩ = some (.int .i64 xb) ∧ gs < w2.heap.size ∧ Hid (Below w2.heap.size w2 w')) (by kernel_rfl) ?_ (fun hHeld => ?_)
      ·exact Gx.drewN E0.out 1
      refine tkHo (i := 0) (oi := ⟨some 75, .move (.tmp 12), 30, "region.go:202", #[], none⟩) rfl ?_
      try simp only [sxHo]
      refine tkHo (i := 1) (oi := ⟨some 76, .move (.tmp 7), 128, "region.go:202", #[], none⟩) rfl ?_
      try simp only [sxHo]
      refine tkHo (i := 2) (oi := ⟨some 77, .move (.tmp 6), 31, "region.go:202", #[], none⟩) rfl ?_
      try simp only [sxHo]
      refine tkHo (i := 3) (oi := ⟨some 78, .move (.tmp 13), 3, "region.go:202", #[], none⟩) rfl ?_
      try simp only [sxHo]
      refine tkHo (i := 4) (oi := ⟨some 79, .binOp .sub 3 (.tmp 78) (.const (.int .i64 1)) 3, 3, "region.go:202", #[⟨3, .data⟩], none⟩) rfl ?_
      try simp only [sxHo]
      refine tkHo (i := 5) (oi := ⟨some 80, .indexAddr 31 (.tmp 77) (.tmp 79), 0, "region.go:202", #[⟨2, .data⟩, ⟨4, .data⟩], none⟩) rfl ?_
      try simp only [sxHo]
      refine tkHo (i := 6) (oi := ⟨some 81, .load 3 (.tmp 80), 3, "region.go:202", #[⟨5, .data⟩], none⟩) rfl ?_
      try simp only [sxHo]
      refine tkHo (i := 7) (oi := ⟨some 82, .move (.tmp 6), 31, "region.go:202", #[], none⟩) rfl ?_
      try simp only [sxHo]
      refine tkHo (i := 8) (oi := ⟨some 83, .move (.tmp 13), 3, "region.go:202", #[], none⟩) rfl ?_
      try simp only [sxHo]
      refine tkHo (i := 9) (oi := ⟨some 84, .indexAddr 31 (.tmp 82) (.tmp 83), 0, "region.go:202", #[⟨7, .data⟩, ⟨8, .data⟩], none⟩) rfl ?_
      try simp only [sxHo]
      refine tkHo (i := 10) (oi := ⟨some 85, .load 3 (.tmp 84), 3, "region.go:202", #[⟨9, .data⟩], none⟩) rfl ?_
      try simp only [sxHo]
      refine tkHo (i := 11) (oi := ⟨some 86, .move (.tmp 0), 89, "region.go:202", #[], none⟩) rfl ?_
      try simp only [sxHo]
      refine tkHo (i := 12) (oi := ⟨some 87, .move (.tmp 1), 108, "region.go:202", #[], none⟩) rfl ?_
      try simp only [sxHo]
      refine tkHo (i := 13) (oi := ⟨some 88, .call { callee := .builtin .len, args := #[.tmp 87], argTypes := #[108] }, 3, "region.go:202", #[⟨12, .data⟩], none⟩) rfl ?_
      try simp only [sxHo]
      clear q1 q5
      refine wpAnyH_ready (rs := [14]) (by kernel_rfl) (by simp) ?_
      refine AllReadyH.cons (o := ⟨some 89, .makeSlice 31 (.tmp 88) (.tmp 88), 31, "region.go:202", #[⟨13, .data⟩, ⟨13, .data⟩], none⟩) rfl (fun Kx hKx => ?_) AllReadyH.nil
      go_simp
      rw [mk2 wx.drew]
      go_simp
      refine hKx.out _ _ (show Gx gs (os + k) (os + (k + 1)) xa xb w2 (wx.drew.alloc (.cells #[.int .i64 0, .int .i64 0] 3)) from Gx.go ‹_› ((Below.refl w2.heap.size wx.drew).alloc (show w2.heap.size ≤ wx.drew.heap.size from hwsz) _)) (fun hHeld2 => ?_)
      clear hKx Kx hHeld
      have hHeld := hHeld2; clear hHeld2
      try simp only [sxHo]
      refine wpAnyH_ready (rs := [15]) (by kernel_rfl) (by simp) ?_
      refine AllReadyH.cons (o := ⟨some 90, .call { callee := .value (.func 122), args := #[.tmp 76, .tmp 81, .tmp 85, .tmp 86, .tmp 89], argTypes := #[128, 3, 3, 89, 31] }, 30, "region.go:202", #[⟨1, .data⟩, ⟨6, .data⟩, ⟨10, .data⟩, ⟨11, .data⟩, ⟨14, .data⟩], none⟩) rfl (fun Kx hKx => ?_) AllReadyH.nil
      go_simp
      go_at_call 122
      refine (HCOL.out wx.drew (Below.refl _ _).drew).mono ?_
      rintro e3 w3 ⟨v3, T3, rfl, hc3, hin3, hown3, hb3⟩
      try go_wp2_with fail
      refine hKx.out _ _ (Gx.go ‹_› (hb3.mono (by simp; omega))) (fun hHeld2 => ?_)
      clear hKx Kx hHeld
      have hHeld := hHeld2; clear hHeld2
      have HJ := Lib.hid (round_join T xa xb vf v3 w2 wx wx.drew w3 _ T3 HGR.out HAB.out hc3 HFX.out (Below.refl _ _).drew hown3 hb3 hT2)
      have HNW := Lib.hid (NEW.out T3 hc3 hin3)
      clear hc3 hin3 hown3 hb3 HCOL NEW
      try simp only [sxHo]
      refine wpAnyH_ready (rs := [16]) (by kernel_rfl) (by simp) ?_
      refine AllReadyH.cons (o := ⟨some 91, .call { callee := .value (.func 121), args := #[.tmp 75, .tmp 90], argTypes := #[30, 30] }, 30, "region.go:202", #[⟨0, .data⟩, ⟨15, .data⟩, ⟨15, .chain⟩], none⟩) rfl (fun Kx hKx => ?_) AllReadyH.nil
      go_simp
      go_at_call 121
      refine HJ.out.mono ?_
      rintro e4 w4 ⟨v4, rfl, hfw4, hb4⟩
      try go_wp2_with fail
      refine hKx.out _ _ (Gx.go ‹_› hb4) (fun hHeld2 => ?_)
      clear hKx Kx hHeld hb4 HJ
      have hHeld := hHeld2; clear hHeld2
      obtain ⟨A4, c4, rfl, _, _, _, _, _⟩ := own_rects hfw4.own
      have HF4 := Lib.hid hfw4; clear hfw4
      try simp only [sxHo]
      refine tkHo (i := 17) (oi := ⟨some 12, .assign (.tmp 91), 30, "region.go:202", #[⟨16, .data⟩, ⟨16, .chain⟩, ⟨0, .phase⟩, ⟨1, .phase⟩, ⟨2, .phase⟩, ⟨3, .phase⟩, ⟨4, .phase⟩, ⟨5, .phase⟩, ⟨6, .phase⟩, ⟨7, .phase⟩, ⟨8, .phase⟩, ⟨9, .phase⟩, ⟨10, .phase⟩, ⟨11, .phase⟩, ⟨12, .phase⟩, ⟨13, .phase⟩, ⟨14, .phase⟩, ⟨15, .phase⟩, ⟨16, .phase⟩], none⟩) rfl ?_
      try simp only [sxHo]
      refine wpAnyH_done (by kernel_rfl) ?_ _
      clear hHeld E0 HFX
      have HOV := Lib.hid (OVER.out _ HNW.out)
      clear OVER
      by_cases h200 : 200 < (flatS (stepF T xa xb T3)).length
      ·have FIN : Hid (FormRes F w (.returned (.tuple #[.slice none 0 0, .int .i64 6])) w4) := Lib.hid (Or.inr ⟨Nat.lt_of_lt_of_le h200 HOV.out, rfl, HBL2.out.trans (HF4.out.bel.mono HBL2.out.size)⟩)
       have s1 : (200 : Int) < (((flatS (stepF T xa xb T3)).length : Nat) : Int) := by omega
       clear HF4 HOV HNW
       go_wp2_with fail
       go_ret2
       exact FIN.out
      ·have s1 : ¬ (200 : Int) < (((flatS (stepF T xa xb T3)).length : Nat) : Int) := by omega
       have hle4 : (flatS (stepF T xa xb T3)).length ≤ 200 := by omega
       have HFMN := Lib.hid (fun (_ : 0 < S.length) => HNW.out)
       have HNN : Hid (S.length = 0 → stepF T xa xb T3 = []) := Lib.hid (fun h => by omega)
       clear HOV HNW h200
       generalize stepF T xa xb T3 = T4 at *
       go_wp2_with fail
       go_roundw
       case rel => exact ⟨k + 1, T4, _, by omega, by go_num, rfl, HFMN, HNN, HF4, hle4⟩
       case measure => simp [intOf]; omega
    ·have hkk : k = S.length - 1 := by omega
     have FIN : Hid (FormRes F w (.returned (.tuple #[vf, .int .i64 0])) wr) := Lib.hid (by
      have e : flatS T = F := by
       rcases Nat.eq_zero_or_pos S.length with h0 | h0
       ·have hT := HN.out h0
        subst hT
        refine form_eq ⟨[], trivial, rfl⟩ HF.out (fun x y => ⟨fun ⟨r, hr, _⟩ => (by cases hr), fun h => ?_⟩)
        have h2 := (HK.out x y).1 h
        obtain ⟨⟨h3, _⟩, _⟩ := HSIDE.out.out x y h2
        omega
       ·have h1 := HFM.out h0
        rw [hkk] at h1
        obtain ⟨h2, h3⟩ := h1.done HSIDE.out h0
        exact form_eq ⟨T, h2, rfl⟩ HF.out (fun x y => by rw [flat_has h2, h3, HK.out])
      refine Or.inl ⟨by rw [← e]; exact hT2, vf, rfl, ?_, HBL2.out.trans (HFW.out.bel.mono HBL2.out.size)⟩
      rw [← e]
      exact own_base HFW.out.own HBL2.out.size)
     have q4 : ¬ (k : Int) + 1 < (S.length : Int) := by omega
     clear HFM HFW HN
     go_wp2_with fail
     go_ret2
     exact FIN.out
end Go.Proofs.YtngddecpfhlilaaGreat
