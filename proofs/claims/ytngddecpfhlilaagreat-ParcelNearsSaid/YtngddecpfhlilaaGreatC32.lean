/-
  Contracts of layer 13 (18): form.
-/
import Derived.Test.YtngddecpfhlilaaGreatC31
import Derived.Test.YtngddecpfhlilaaGreatC04
import Derived.Test.YtngddecpfhlilaaGreatC19
import Derived.Test.YtngddecpfhlilaaGreatC11
import Derived.Laws.AppendOwn
import Derived.Deep.RegionHeld3
set_option linter.unusedVariables false
set_option maxRecDepth 100000
namespace Go.Proofs.YtngddecpfhlilaaGreat
open Go.RowKit
theorem tkLB {v : Value} {P : Program} {ops : Array Oper} {Q : Exit → Act → World → Prop} {md : Region.Mode} {S : World → Prop} {i : Nat} {oi : Oper} {fuel : Nat} {listed : Array Bool} {a : Act} {w : World} (hi : ops[i]? = some oi) (h : wpAnyH P md ops Q S fuel (listed.setIfInBounds i true) (a.put oi.dst v) w) (hy : ∀ w, S w → (execOp a.eval oi).run P w = .ok (.value v) w := by (intro w hSw; (try dsimp only at hSw); go_simp); try with_reducible rfl) (hs : Region.noSelect ops = true := by kernel_rfl) (hf : Region.free md ops listed i = true := by kernel_rfl) (hr : (Region.ready md ops listed).contains i = true := by kernel_rfl) (hQ : ∀ c a w, Q (.panic c) (a.put oi.dst v) w → Q (.panic c) a w := by exact fun _ _ _ h => h) (hg : Region.wanted oi (yielded ops a.tmps) = true := by rfl) (hS : S w := by assumption) : wpAnyH P md ops Q S (fuel + 1) listed a w :=
 wpAnyH_take hi hs hf hr hQ (Or.inl ⟨hg, hy⟩) hS h
theorem sxLB : (∀ (a : Act) (v : Value), a.put none v = a) ∧ (∀ (a : Act) (d : Tmp) (v : Value), a.put (some d) v = { a with tmps := a.tmps.setIfInBounds d v }) ∧ (∀ {α : Type} (l : List α) (i : Nat) (x : α), l.toArray.setIfInBounds i x = (l.set i x).toArray) ∧ (∀ {α : Type} (l : List α) (x y : α), (x :: l).set 0 y = y :: l) ∧ (∀ {α : Type} (l : List α) (x y : α) (n : Nat), (x :: l).set (n + 1) y = x :: l.set n y) :=
 ⟨fun _ _ => rfl, fun _ _ _ => rfl, fun _ _ _ => List.setIfInBounds_toArray .., fun _ _ _ => rfl, fun _ _ _ _ => rfl⟩
theorem asc_of_lt : ∀ {t : List Int}, t.Pairwise (fun a b => a < b) → Asc t
 | [], _ => trivial
 | a :: t, h => by
  obtain ⟨h1, h2⟩ := List.pairwise_cons.1 h
  exact Asc.cons (asc_of_lt h2) h1
theorem ltPr_trans : ∀ a b c : Int × Int, ltPr a b → ltPr b c → ltPr a c := fun a b c h k => by unfold ltPr at *; omega
theorem ltPr_irr : ∀ a : Int × Int, ¬ ltPr a a := fun a h => by unfold ltPr at h; omega
theorem cnok_of {l : List Rc} (hok : ∀ r ∈ l, ROk r) (hap : l.Pairwise Apt) {T : List (Int × Int)} (hp : T.Perm (cornersOf l)) (hs : T.Pairwise fun a b => a = b ∨ ltPr a b) : CnOk l (oddL T) :=
 ⟨hok, hap, (oddL_asc hs ltPr_trans ltPr_irr), fun q => by rw [oddL_par, hp.countP_eq], fun p hp2 => hp.subset (oddL_mem hp2)⟩
structure Fm3 (vc vf vr : Value) (C : List (Int × Int)) (F : List Rc) (R : List Int) (w wr : World) : Prop where
 oC : wr.ownsRow w.heap.size 146 2 vc C.length (prcells C)
 oF : wr.ownsRow w.heap.size 68 4 vf F.length (rcells F)
 oR : wr.ownsRow w.heap.size 3 1 vr R.length (icells R)
 bel : Below w.heap.size w wr
theorem Fm3.go {vc vf vr : Value} {C : List (Int × Int)} {F : List Rc} {R : List Int} {w wr w' : World} (h : Fm3 vc vf vr C F R w wr) (hb : Below wr.heap.size wr w') : Fm3 vc vf vr C F R w w' := ⟨own_go h.oC hb, own_go h.oF hb, own_go h.oR hb, h.bel.trans (hb.mono h.bel.size)⟩
theorem Fm3.rows {vc vf vr vr' : Value} {C : List (Int × Int)} {F : List Rc} {R R' : List Int} {w wr w' : World} (h : Fm3 vc vf vr C F R w wr) (ho : w'.ownsRow w.heap.size 3 1 vr' R'.length (icells R')) (hg : wr.grownBy w' vr.ownBlock) : Fm3 vc vf vr' C F R' w w' :=
 ⟨own_kept h.oR h.oC (by decide) hg, own_kept h.oR h.oF (by decide) hg, ho, h.bel.grown hg h.bel.size (fun k hk => (h.oR.lt k hk).1)⟩
theorem Fm3.recs {vc vf vf' vr : Value} {C : List (Int × Int)} {F F' : List Rc} {R : List Int} {w wr w' : World} (h : Fm3 vc vf vr C F R w wr) (ho : w'.ownsRow w.heap.size 68 4 vf' F'.length (rcells F')) (hg : wr.grownBy w' vf.ownBlock) : Fm3 vc vf' vr C F' R w w' :=
 ⟨own_kept h.oF h.oC (by decide) hg, ho, own_kept h.oF h.oR (by decide) hg, h.bel.grown hg h.bel.size (fun k hk => (h.oF.lt k hk).1)⟩
def Pf13 (gp gc gr : Nat) (i1 j0 j1 : Nat) (a b y0 y1 : Int) (w0 w' : World) : Prop := w'.cell? ⟨gp, 0, none⟩ = some (.int .i64 a) ∧ w'.cell? ⟨gc, i1, none⟩ = some (.int .i64 b) ∧ w'.cell? ⟨gr, j0, none⟩ = some (.int .i64 y0) ∧ w'.cell? ⟨gr, j1, none⟩ = some (.int .i64 y1) ∧ gp < w'.heap.size ∧ gc < w'.heap.size ∧ gr < w'.heap.size ∧ Hid (Below w0.heap.size w0 w' ∨ True)
theorem Pf13.go {gp gc gr i1 j0 j1 : Nat} {a b y0 y1 : Int} {w0 w w' : World} (h : Pf13 gp gc gr i1 j0 j1 a b y0 y1 w0 w) (hb : Below w.heap.size w w') : Pf13 gp gc gr i1 j0 j1 a b y0 y1 w0 w' := by
 obtain ⟨h0, h1, h2, h3, l0, l1, l2, _⟩ := h
 exact ⟨(hb.cell (p := ⟨gp, _, none⟩) l0).trans h0, (hb.cell (p := ⟨gc, _, none⟩) l1).trans h1, (hb.cell (p := ⟨gr, _, none⟩) l2).trans h2, (hb.cell (p := ⟨gr, _, none⟩) l2).trans h3, Nat.lt_of_lt_of_le l0 hb.size, Nat.lt_of_lt_of_le l1 hb.size, Nat.lt_of_lt_of_le l2 hb.size, Lib.hid (.inr trivial)⟩
theorem Pf13.grow {gp gc gr i1 j0 j1 : Nat} {a b y0 y1 : Int} {w0 w w' : World} {k : Option Nat} (h : Pf13 gp gc gr i1 j0 j1 a b y0 y1 w0 w) (hg : w.grownBy w' k) (k0 : some gp ≠ k) (k1 : some gc ≠ k) (k2 : some gr ≠ k) : Pf13 gp gc gr i1 j0 j1 a b y0 y1 w0 w' := by
 obtain ⟨h0, h1, h2, h3, l0, l1, l2, _⟩ := h
 have e0 := hg.block gp l0 k0; have e1 := hg.block gc l1 k1; have e2 := hg.block gr l2 k2
 exact ⟨(World.cell?_of_block e0).trans h0, (World.cell?_of_block e1).trans h1, (World.cell?_of_block e2).trans h2, (World.cell?_of_block e2).trans h3, Nat.lt_of_lt_of_le l0 hg.size, Nat.lt_of_lt_of_le l1 hg.size, Nat.lt_of_lt_of_le l2 hg.size, Lib.hid (.inr trivial)⟩
theorem own_rd {w : World} {B E K g n m cap : Nat} {xs : List Value} (h : w.ownsRow B E K (.slice (some ⟨g, 0, none⟩) n cap) m xs) : B ≤ g ∧ g < w.heap.size ∧ m ≤ cap ∧ cap ≤ maxLen ∧ ∀ t, t < m * K → w.cell? ⟨g, t, none⟩ = xs[t]? := by
 have hlt := h.lt g rfl
 rcases h.2 with ⟨e, _⟩ | ⟨g2, c2, cur, e, h0, h1, h2, h3, h4, h5⟩
 ·cases e
 ·injection e with e1 e2 e3
  simp only [Option.some.injEq, Addr.mk.injEq, and_true] at e1
  subst e1; subst e3
  refine ⟨h0, hlt.2, h2, h3, fun t ht => ?_⟩
  rw [Lib.cell_of_heap h1, ← h5, List.getElem?_take, if_pos ht]
  simp
theorem blk_ap {w : World} {B2 E E2 K2 gp m2 : Nat} {c : Array Value} {fr : Nat × Nat} {v2 : Value} {xs2 : List Value} (h1 : w.heap[gp]? = some (.cells c E fr)) (h2 : w.ownsRow B2 E2 K2 v2 m2 xs2) (he : E ≠ E2) : some gp ≠ v2.ownBlock := by
 intro e
 rcases h2.2 with ⟨e2, _⟩ | ⟨g2, c2, cur, e2, h0, h3, _⟩
 ·rw [e2] at e; cases e
 ·rw [e2] at e
  have e3 : gp = g2 := by simpa [Value.ownBlock] using e
  subst e3
  rw [h1] at h3
  injection h3 with h4
  injection h4 with _ h5
  exact he h5
theorem own_blk {w : World} {B E K g n m cap : Nat} {xs : List Value} (h : w.ownsRow B E K (.slice (some ⟨g, 0, none⟩) n cap) m xs) : ∃ cur, w.heap[g]? = some (.cells cur E (0, 0)) := by
 rcases h.2 with ⟨e, _⟩ | ⟨g2, c2, cur, e, h0, h1, _⟩
 ·cases e
 ·injection e with e1 e2 e3
  simp only [Option.some.injEq, Addr.mk.injEq, and_true] at e1
  subst e1
  exact ⟨cur, h1⟩
theorem grp_end {C : List (Int × Int)} (ha : C.Pairwise fun p q => p.1 < q.1 ∨ (p.1 = q.1 ∧ p.2 < q.2)) {k : Nat} (hk : k < C.length) (h : ∀ h : k + 1 < C.length, C[k + 1].1 ≠ C[k].1) : ∀ j, k < j → ∀ hj : j < C.length, C[k].1 < C[j].1 := by
 intro j hkj hj
 have hp := List.pairwise_iff_getElem.1 ha
 have h1 := hp k (k + 1) hk (by omega) (by omega)
 have h2 := h (by omega)
 by_cases e : j = k + 1
 ·subst e; omega
 ·have := hp (k + 1) j (by omega) hj (by omega)
  omega
structure CoW (v : Value) (C : List (Int × Int)) (w wr : World) : Prop where
 own : wr.ownsRow w.heap.size 146 2 v C.length (prcells C)
 bel : Below w.heap.size w wr
set_option maxHeartbeats 64000000 in
theorem form13_any (A : Option Addr) (cap : Nat) (l : List Rc) (w : World) (h1 : RRow w A l) (hl : l.length ≤ 137438953472) (hne : l ≠ []) (hok : ∀ r ∈ l, ROk r) (hap : l.Pairwise Apt) :
  Calls Tryz.prog 84 #[.slice A l.length cap] w (ResIs (capR (formL l)) w) := by
 obtain ⟨i2, hk9, hk0, hk1, hk2⟩ := info_parts infoRect
 obtain ⟨i1, hj9, hy0, hy1, hy2⟩ := info_parts infoPt13
 obtain ⟨i0, hi9, hz0, hz1, hz2⟩ := info_parts infoInt
 have H1 := Lib.hid h1; clear h1
 have HOK := Lib.hid hok; have HAP := Lib.hid hap
 have hl0 := List.length_pos_iff.2 hne
 clear hok hap hne
 go_enter Tryz.func84, Tryz.ntmps84
 go_wp2_with fail
 go_loopw [4, 14] (fun v i wr => ∃ (k : Nat) (a : Value), k ≤ l.length ∧ i = .int .i64 k ∧ a = v ∧ Hid (CoW a (cornersOf (l.take k)) w wr)) (fun _ i _ => l.length - (intOf i).toNat)
 case atStart => exact ⟨0, _, Nat.zero_le _, rfl, rfl, Lib.hid ⟨World.ownsRow_nil _ _ _ _, Below.refl _ _⟩⟩
 case round =>
  obtain ⟨k, v, hk, rfl, rfl, HK⟩ := hrel
  by_cases hlt : k < l.length
  ·obtain ⟨b1, o1, rfl, hb1, hv1⟩ := H1.out (by omega)
   obtain ⟨x0, x1, x2, x3⟩ := hv1 k hlt
   have wc := fun o => HK.out.bel.cell (p := ⟨b1, o, none⟩) hb1
   have x0 := (wc _).trans x0; have x1 := (wc _).trans x1; have x2 := (wc _).trans x2; have x3 := (wc _).trans x3
   clear hv1 wc
   have n0 : (0 : Int) ≤ (k : Int) := by omega
   have n1 : (k : Int) < (l.length : Int) := by omega
   have HL1 : Hid (cornersOf (l.take (k + 1)) = cornersOf (l.take k) ++ [(l[k].X0, l[k].Y0), (l[k].X0, l[k].Y1), (l[k].X1, l[k].Y0), (l[k].X1, l[k].Y1)]) := Lib.hid (by rw [← List.take_append_getElem hlt, cornersOf_append]; rfl)
   have HZ1 : Hid ((cornersOf (l.take k)).length = k * 4) := Lib.hid (by rw [cornersOf_len, List.length_take]; omega)
   obtain ⟨u, hu⟩ : ∃ u, u = l[k] := ⟨_, rfl⟩
   rw [← hu] at x0 x1 x2 x3 HL1
   clear hu
   obtain ⟨F1, hF1⟩ : ∃ F, F = cornersOf (l.take k) := ⟨_, rfl⟩
   rw [← hF1] at HK HL1 HZ1
   clear hF1
   have HKA : Hid (∀ o, CoW v F1 w ((wr.alloc (.cells #[.int .i64 u.X0, .int .i64 u.Y0, .int .i64 u.X1, .int .i64 u.Y1] 68)).alloc o)) := Lib.hid (fun o => ⟨own_go HK.out.own (((Below.refl _ _).alloc (Nat.le_refl _) _).alloc (by simp) _), HK.out.bel.trans ((((Below.refl _ _).alloc (Nat.le_refl _) _).alloc (by simp) _).mono HK.out.bel.size)⟩)
   have hbs := HK.out.bel.size
   have HOL : Hid (∀ k : Nat, v.ownBlock = some k → w.heap.size ≤ k) := Lib.hid (fun k hk => (HK.out.own.lt k hk).1)
   clear HK
   go_wp2_with (at_builtin; refine wpList_append_own _ rfl _ _ 144 rfl w.heap.size 146 i1 (.agg #[.int .i64 0, .int .i64 0]) 2 16 Tryz.underlying144 hj9 hy0 hy1 hy2 rfl (by decide) _ _ _ rfl (HKA.out _).own ⟨wr.heap.size + 1, 0, none⟩ 4 4 (prcells [(u.X0, u.Y0), (u.X0, u.Y1), (u.X1, u.Y0), (u.X1, u.Y1)]) rfl rfl ?c1 ?c2 ?c3 ?c4 ?c5 ?_)
   case c1 => exact World.news_of_block (cs := #[.int .i64 u.X0, .int .i64 u.Y0, .int .i64 u.X0, .int .i64 u.Y1, .int .i64 u.X1, .int .i64 u.Y0, .int .i64 u.X1, .int .i64 u.Y1]) (t := 146) (fr := (0, 0)) (heap_alloc2_new wr _ _)
   case c2 => intro z hz; simp only [prcells, prc, List.flatMap_cons, List.flatMap_nil, List.append_nil, List.mem_cons, List.not_mem_nil, or_false, List.cons_append, List.nil_append] at hz; rcases hz with rfl | rfl | rfl | rfl | rfl | rfl | rfl | rfl <;> rfl
   case c3 => have := HZ1.out; unfold maxLen; omega
   case c4 => have := HZ1.out; omega
   case c5 => exact (HKA.out _).bel.size
   intro v5 w5 hown5 hgr5 _
   have HK5 : Hid (CoW v5 (cornersOf (l.take (k + 1))) w w5) := Lib.hid (by
    rw [HL1.out]
    exact ⟨by rw [List.length_append, prcells_append]; exact hown5, (HKA.out _).bel.grown hgr5 (HKA.out _).bel.size (fun k hk => HOL.out k hk)⟩)
   clear hown5 hgr5 HKA HOL
   go_wp2_with fail
   go_roundw
   case rel => exact ⟨k + 1, v5, by omega, by go_num, rfl, HK5⟩
   case measure => simp [intOf]; omega
  ·obtain rfl : k = l.length := by omega
   rw [List.take_length] at HK
   have hcl := cornersOf_len l
   obtain ⟨g, c9, rfl, hgg⟩ : ∃ g c9, v = .slice (some ⟨g, 0, none⟩) (cornersOf l).length c9 ∧ w.heap.size ≤ g := by
    rcases HK.out.own.2 with ⟨e, h⟩ | ⟨g2, c2, cur, e, h0, _⟩
    ·omega
    ·exact ⟨g2, c2, e, h0⟩
   have HOD := Lib.hid (oddP_any w.heap.size g c9 (cornersOf l) wr HK.out.own (by omega))
   have HB := Lib.hid HK.out.bel
   have HCL := Lib.hid hcl
   clear HK hcl
   generalize (cornersOf l).length = nc at *
   go_wp2_with fail
   refine HOD.out.mono ?_
   rintro e w2 ⟨T, hp, hs, rfl, hown, hgr⟩
   have HCN := Lib.hid (cnok_of HOK.out HAP.out hp hs)
   have hnl : (oddL T).length ≤ nc := by
    have h1 := oddL_len T
    have h2 := hp.length_eq
    have h3 := cornersOf_len l
    have := HCL.out
    omega
   obtain ⟨C, hC⟩ : ∃ C, C = oddL T := ⟨_, rfl⟩
   rw [← hC] at HCN hown hnl ⊢
   have HF0 : Hid (Fm3 (.slice (some ⟨g, 0, none⟩) C.length c9) (.slice none 0 0) (.slice none 0 0) C [] [] w w2) := Lib.hid ⟨hown, World.ownsRow_nil _ _ _ _, World.ownsRow_nil _ _ _ _, HB.out.grown hgr HB.out.size (fun k e => by cases e; exact hgg)⟩
   have hn4 : C.length ≤ 549755813888 := by have := HCL.out; omega
   have HFO : Hid (formL l = [] ++ polyR (colT l) (dX (C.drop 0))) := Lib.hid (by rw [List.drop_zero, List.nil_append]; exact HCN.out.form)
   obtain ⟨n, hn⟩ : ∃ n, n = C.length := ⟨_, rfl⟩
   rw [← hn] at hn4 ⊢
   have HNC := Lib.hid hn
   clear hC hown hgr hp hs hnl HOD HCL hn
   go_wp2_with fail
   go_loopw [7, 8, 46] (fun vf vr i wr => ∃ (k : Nat) (f r : Value) (F : List Rc) (R : List Int), k ≤ n ∧ i = .int .i64 k ∧ f = vf ∧ r = vr ∧ Hid (Fm3 (.slice (some ⟨g, 0, none⟩) n c9) f r C F R w wr) ∧ Hid (formL l = F ++ polyR (colT l) (dX (C.drop k))) ∧ Hid (∀ q : Int → Bool, R.countP q % 2 = (C.take k).countP (fun p => q p.2) % 2) ∧ R.length ≤ k ∧ F.length ≤ 200) (fun _ _ i _ => n - (intOf i).toNat)
   case atStart => exact ⟨0, _, _, [], [], Nat.zero_le _, rfl, rfl, rfl, Lib.hid (by rw [HNC.out]; exact HF0.out), HFO, Lib.hid (fun q => by simp), by simp, by simp⟩
   case round =>
    clear HF0 HFO
    obtain ⟨k, vf, vr, F, R, hk, rfl, rfl, rfl, HK, HFO, HPR, hRl, hFl⟩ := hrel
    by_cases hlt : k < n
    ·have hkC : k < C.length := by rw [← HNC.out]; exact hlt
     have n0 : (0 : Int) ≤ (k : Int) := by omega
     have n1 : (k : Int) < (n : Int) := by omega
     obtain ⟨hBg, hgw, hcc, hcm, hrd⟩ := own_rd HK.out.oC
     have hcm2 : c9 ≤ 9223372036854775807 := by unfold maxLen at hcm; omega
     have hcc2 : n ≤ c9 := by rw [HNC.out]; exact hcc
     have HRD : Hid (∀ j (hj : j < C.length), wr.cell? ⟨g, j * 2, none⟩ = some (.int .i64 C[j].1) ∧ wr.cell? ⟨g, j * 2 + 1, none⟩ = some (.int .i64 C[j].2)) := Lib.hid (fun j hj => by
      obtain ⟨c0, c1⟩ := prcells_at C j hj
      exact ⟨(hrd _ (by omega)).trans c0, (hrd _ (by omega)).trans c1⟩)
     obtain ⟨x0, x1⟩ := HRD.out k hkC
     have HNP : Hid (∀ q : Int → Bool, (R ++ [C[k].2]).countP q % 2 = (C.take (k + 1)).countP (fun p => q p.2) % 2) := Lib.hid (fun q => by
      rw [← List.take_append_getElem hkC, List.countP_append, List.countP_append]
      have := HPR.out q
      simp only [List.countP_cons, List.countP_nil]
      omega)
     have HROW : Hid ((∀ h : k + 1 < C.length, C[k + 1].1 ≠ C[k].1) → ∀ T, T.Perm (R ++ [C[k].2]) → T.Pairwise (fun a b => a = b ∨ a < b) → oddL T = colS l C[k].1) := Lib.hid (fun hne T hp hs => HCN.out.rows hkC (grp_end HCN.out.asc hkC hne) (asc_of_lt (oddL_asc hs (fun a b c => by omega) (fun a => by omega))) (fun q => by rw [oddL_par, hp.countP_eq]; exact HNP.out q))
     have HDX := Lib.hid (dX_drop hkC)
     have HLST : Hid (k + 1 = C.length → colS l C[k].1 = []) := Lib.hid (fun h => HCN.out.last hkC h)
     have HXN : Hid (∀ h : k + 1 < C.length, wr.cell? ⟨g, (k + 1) * 2, none⟩ = some (.int .i64 C[k + 1].1)) := Lib.hid (fun h => (HRD.out (k + 1) h).1)
     obtain ⟨X, hX⟩ : ∃ X, X = C[k].1 := ⟨_, rfl⟩
     obtain ⟨Y, hY⟩ : ∃ Y, Y = C[k].2 := ⟨_, rfl⟩
     simp only [← hX, ← hY] at x0 x1 HNP HROW HDX HLST
     clear hX hY hrd HRD
     obtain ⟨R2, hR2⟩ : ∃ R2, R2 = R ++ [Y] := ⟨_, rfl⟩
     rw [← hR2] at HNP HROW
     have hR2l : R2.length = R.length + 1 := by rw [hR2]; simp
     have HR2 : Hid (icells R2 = icells R ++ [.int .i64 Y]) := Lib.hid (by rw [hR2]; simp [icells])
     have HKA : Hid (∀ o, Fm3 (.slice (some ⟨g, 0, none⟩) n c9) vf vr C F R w ((wr.alloc (.cells #[.int .i64 X, .int .i64 Y] 146)).alloc o)) := Lib.hid (fun o => HK.out.go (((Below.refl _ _).alloc (Nat.le_refl _) _).alloc (by simp) _))
     have HPB : Hid (some wr.heap.size ≠ vr.ownBlock) := Lib.hid (fun e => by have := HK.out.oR.lt _ e.symm; omega)
     have hbs := HK.out.bel.size
     clear hR2 HK
     go_wp2_with (at_builtin; refine wpList_append_own _ rfl _ _ 31 rfl w.heap.size 3 i0 (.int .i64 0) 1 8 Tryz.underlying31 hi9 hz0 hz1 hz2 rfl (by decide) _ _ _ rfl (HKA.out _).oR ⟨wr.heap.size + 1, 0, none⟩ 1 1 [.int .i64 Y] rfl rfl ?c1 ?c2 ?c3 ?c4 ?c5 ?_)
     case c1 => exact World.news_of_block (cs := #[.int .i64 Y]) (t := 3) (fr := (0, 0)) (heap_alloc2_new wr _ _)
     case c2 => intro z hz; simp only [List.mem_cons, List.not_mem_nil, or_false] at hz; rcases hz with rfl; rfl
     case c3 => unfold maxLen; omega
     case c4 => omega
     case c5 => exact (HKA.out _).bel.size
     intro v5 w5 hown5 hgr5 _
     have HK5 : Hid (Fm3 (.slice (some ⟨g, 0, none⟩) n c9) vf v5 C F R2 w w5) := Lib.hid ((HKA.out _).rows (by rw [hR2l, HR2.out]; exact hown5) hgr5)
     have hpt : w5.heap[wr.heap.size]? = some (.cells #[.int .i64 X, .int .i64 Y] 146 (0, 0)) := (hgr5.block wr.heap.size (by simp; omega) HPB.out).trans ((((Below.refl _ (wr.alloc (.cells #[.int .i64 X, .int .i64 Y] 146))).alloc (Nat.le_refl _) (.cells #[.int .i64 Y] 3)).block wr.heap.size (by rw [World.size_alloc]; omega)).trans (heap_alloc_new wr (.cells #[.int .i64 X, .int .i64 Y] 146)))
     obtain ⟨y0, y1⟩ : w5.cell? ⟨wr.heap.size, 0, none⟩ = some (.int .i64 X) ∧ wr.heap.size < w5.heap.size := by
      have e := hgr5.block wr.heap.size (by simp; omega) HPB.out
      refine ⟨(World.cell?_of_block e).trans ?_, ?_⟩
      ·rw [Lib.cell_of_heap (((((Below.refl _ (wr.alloc (.cells #[.int .i64 X, .int .i64 Y] 146))).alloc (Nat.le_refl _) (.cells #[.int .i64 Y] 3)).block wr.heap.size (by rw [World.size_alloc]; omega))).trans (heap_alloc_new wr (.cells #[.int .i64 X, .int .i64 Y] 146)))]; rfl
      ·have := hgr5.size; simp at this; omega
     clear HKA hown5 hgr5 HPB x0 x1
     obtain ⟨A5, c5, rfl, h51, h52, h53⟩ := own_parts13 HK5.out.oR
     obtain ⟨g5, rfl, h54, h55⟩ := h53 (by omega)
     have q0 : IntKind.i64.wrap ((k : Int) + 1) = (k : Int) + 1 := IntWalk.i64_in _ (by omega)
     have HR2L : Hid (R2.length = R.length + 1) := Lib.hid hR2l
     have hR2b : R2.length ≤ k + 1 := by omega
     clear hR2l
     have jt : ((k : Int) + 1).toNat = k + 1 := by omega
     have m0 : (0 : Int) ≤ (k : Int) + 1 := by omega
     have HX5 : Hid (∀ h : k + 1 < C.length, w5.cell? ⟨g, (k + 1) * 2, none⟩ = some (.int .i64 C[k + 1].1)) := Lib.hid (fun h => by
      obtain ⟨_, _, _, _, hrd⟩ := own_rd HK5.out.oC
      obtain ⟨c0, c1⟩ := prcells_at C (k + 1) h
      exact (hrd _ (by omega)).trans c0)
     clear HXN
     by_cases c1 : k + 1 < n
     ·have c1C : k + 1 < C.length := by rw [← HNC.out]; exact c1
      have g0 : decide ((k : Int) + 1 < (n : Int)) = true := by simp; omega
      have m1 : (k : Int) + 1 < (n : Int) := by omega
      have z0 := HX5.out c1C
      by_cases c2 : C[k + 1].1 = X
      ·have HFN : Hid (formL l = F ++ polyR (colT l) (dX (C.drop (k + 1)))) := Lib.hid (by rw [← HDX.out.1 c1C c2]; exact HFO.out)
       rw [c2] at z0
       have HEQ : ((X : Int) == X) = true := by simp
       clear HROW HDX HLST HX5 c2
       go_wp2_with fail
       go_quiet (fail)
       go_wp2_with fail
       go_roundw
       case rel => exact ⟨k + 1, _, _, F, R2, by omega, by go_num, rfl, rfl, Lib.hid (HK5.out.go (by (repeat' first | exact Below.refl _ _ | assumption | (apply below_drewN) | (refine Below.setCell ?_ (by (try simp); (try omega)) _) | (refine Below.alloc ?_ (by (try simp); (try omega)) _) | (refine Below.trans ?_ (Below.mono (Hid.out (by assumption)) (by (try simp); (try omega))))))), HFN, HNP, by omega, hFl⟩
       case measure => simp [intOf]; omega
      ·obtain ⟨X1, hX1⟩ : ∃ X1, X1 = C[k + 1].1 := ⟨_, rfl⟩
       rw [← hX1] at z0 c2
       have HR3 := Lib.hid (HROW.out (fun h => by rw [← hX1]; exact c2))
       obtain ⟨s, hs1, hs2⟩ := HDX.out.2.1 c1C (by rw [← hX1]; exact c2)
       rw [← hX1] at hs1 hs2
       have hcol := colS_is HOK.out X
       have HEV : Hid ((colS l X).length % 2 = 0) := Lib.hid hcol.1.ev
       have HFN : Hid (formL l = F ++ rectsOf X X1 (colS l X) ++ polyR (colT l) (dX (C.drop (k + 1)))) := Lib.hid (by
        rw [HFO.out, hs2, hs1]
        show F ++ (rectsOf X X1 (colT l X X1) ++ polyR (colT l) (X1 :: s)) = _
        rw [List.append_assoc]
        rfl)
       have HCX : Hid (∀ h : k + 1 < C.length, C[k + 1].1 = X1) := Lib.hid (fun _ => hX1.symm)
       have HEQ : (X1 == X) = false := by simpa using c2
       have HK5N : Hid (∀ z, Fm3 (.slice (some ⟨g, 0, none⟩) n c9) vf (.slice (some ⟨g5, 0, none⟩) R2.length c5) C F R2 w (w5.drewN z) ∧ (w5.drewN z).heap[wr.heap.size]? = some (.cells #[.int .i64 X, .int .i64 Y] 146 (0, 0))) := Lib.hid (fun z => ⟨HK5.out.go (below_drewN (Below.refl _ _) z), ((below_drewN (Below.refl _ w5) z).block _ y1).trans hpt⟩)
       have HOD := Lib.hid (fun z => oddI_any w.heap.size g5 c5 R2 (w5.drewN z) (HK5N.out z).1.oR (by omega))
       clear HROW HDX HLST HX5 hX1 hs1 hs2 hcol HFO c2  HK5 hpt
       go_wp2_with fail
       go_quiet (fail)
       go_wp2_with fail
       refine (HOD.out _).mono ?_
       rintro e w6 ⟨T, hp, hs, rfl, hown, hgr⟩
       have e3 := HR3.out T hp hs
       have hnl : (colS l X).length ≤ k + 1 := by
        rw [← e3]
        have h1 := oddL_len T
        have h2 := hp.length_eq
        omega
       have HPR3 : Hid (∀ q : Int → Bool, (colS l X).countP q % 2 = (C.take (k + 1)).countP (fun p => q p.2) % 2) := Lib.hid (fun q => by rw [← e3, oddL_par, hp.countP_eq]; exact HNP.out q)
       rw [e3] at hown ⊢
       have hgp6 : w6.heap[wr.heap.size]? = some (.cells #[.int .i64 X, .int .i64 Y] 146 (0, 0)) := (hgr.block _ (Array.getElem?_eq_some_iff.1 (HK5N.out _).2).1 (fun e => by
        have := blk_ap (HK5N.out 0).2 (HK5N.out 0).1.oR (by decide)
        exact this (by rw [e]; rfl))).trans (HK5N.out _).2
       have HK6 : Hid (Fm3 (.slice (some ⟨g, 0, none⟩) n c9) vf (.slice (some ⟨g5, 0, none⟩) (colS l X).length c5) C F (colS l X) w w6 ∧ w6.heap[wr.heap.size]? = some (.cells #[.int .i64 X, .int .i64 Y] 146 (0, 0))) := Lib.hid ⟨(HK5N.out _).1.rows hown hgr, hgp6⟩
       clear hown hgr hgp6 e3 hp hs HR3 HK5N HOD HNP
       obtain ⟨R3, hR3⟩ : ∃ R3, R3 = colS l X := ⟨_, rfl⟩
       rw [← hR3] at HEV HFN hnl HPR3 HK6 ⊢
       clear hR3
       obtain ⟨nR, hnR⟩ : ∃ nR, nR = R3.length := ⟨_, rfl⟩
       rw [← hnR] at HEV hnl HK6 ⊢
       have HNR := Lib.hid hnR
       obtain ⟨gp, hgp⟩ : ∃ gp, gp = wr.heap.size := ⟨_, rfl⟩
       rw [← hgp] at HK6
       simp only [← hgp]
       clear hnR y0 y1 hgp hgw
       go_wp2_with fail
       go_loopw [7, 11] (fun v i wr => ∃ (q : Nat) (v2 : Value) (F2 : List Rc), q % 2 = 0 ∧ q ≤ nR ∧ i = .int .i64 ((q : Int) + 1) ∧ v2 = v ∧ Hid (Fm3 (.slice (some ⟨g, 0, none⟩) n c9) v2 (.slice (some ⟨g5, 0, none⟩) nR c5) C F2 R3 w wr ∧ wr.heap[gp]? = some (.cells #[.int .i64 X, .int .i64 Y] 146 (0, 0))) ∧ Hid (F2 = F ++ rectsOf X X1 (R3.take q)) ∧ F2.length ≤ 200 + q) (fun _ i _ => nR + 3 - (intOf i).toNat)
       case atStart => exact ⟨0, _, F, rfl, Nat.zero_le _, by go_num, rfl, HK6, Lib.hid (by simp [rectsOf, twos]), by omega⟩
       case round =>
        clear HK6
        obtain ⟨q, vf2, F2, hq, hqn, rfl, rfl, HQ, HQF, hql⟩ := hrel
        have hev := HEV.out
        by_cases hqt : q + 1 < nR
        ·obtain ⟨hB2, hg2, _, _, hrC⟩ := own_rd HQ.out.1.oC
         obtain ⟨hB3, hg3, _, _, hrR⟩ := own_rd HQ.out.1.oR
         have c1C : k + 1 < C.length := by rw [← HNC.out]; exact c1
         have hq3 : q + 1 < R3.length := by rw [← HNR.out]; exact hqt
         have z1 : wr.cell? ⟨g, (k + 1) * 2, none⟩ = some (.int .i64 X1) := by
          have h := (prcells_at C (k + 1) c1C).1
          rw [HCX.out c1C] at h
          exact (hrC _ (by omega)).trans h
         have z2 : wr.cell? ⟨g5, q, none⟩ = some (.int .i64 R3[q]) := (hrR _ (by omega)).trans (by simp [icells])
         have z3 : wr.cell? ⟨g5, q + 1, none⟩ = some (.int .i64 R3[q + 1]) := (hrR _ (by omega)).trans (by simp [icells])
         have z4 : wr.cell? ⟨gp, 0, none⟩ = some (.int .i64 X) := by rw [Lib.cell_of_heap HQ.out.2]; rfl
         have hgpl : gp < wr.heap.size := (Array.getElem?_eq_some_iff.1 HQ.out.2).1
         have HQ3 : Hid (F2 ++ [⟨X, R3[q], X1, R3[q + 1]⟩] = F ++ rectsOf X X1 (R3.take (q + 2))) := Lib.hid (by
          obtain ⟨m, rfl⟩ : ∃ m, q = 2 * m := ⟨q / 2, by omega⟩
          rw [rects_take X X1 m R3 hq3, HQF.out, List.append_assoc])
         clear hrC hrR HQF
         obtain ⟨ya, hya⟩ : ∃ ya, ya = R3[q] := ⟨_, rfl⟩
         obtain ⟨yb, hyb⟩ : ∃ yb, yb = R3[q + 1] := ⟨_, rfl⟩
         simp only [← hya, ← hyb] at z2 z3 HQ3
         clear hya hyb hq3
         have HPF : Hid (Pf13 gp g g5 ((k + 1) * 2) q (q + 1) X X1 ya yb wr wr) := Lib.hid ⟨z4, z1, z2, z3, hgpl, hg2, hg3, Lib.hid (.inr trivial)⟩
         clear z1 z2 z3 z4
         have hbd : Below wr.heap.size wr (wr.drew.alloc (.cells #[.int .i64 X, .int .i64 ya, .int .i64 X1, .int .i64 yb] 68)) := (below_drewN (Below.refl _ _) 1).alloc (Nat.le_refl _) _
         have HKD : Hid (Fm3 (.slice (some ⟨g, 0, none⟩) n c9) vf2 (.slice (some ⟨g5, 0, none⟩) nR c5) C F2 R3 w (wr.drew.alloc (.cells #[.int .i64 X, .int .i64 ya, .int .i64 X1, .int .i64 yb] 68)) ∧ (wr.drew.alloc (.cells #[.int .i64 X, .int .i64 ya, .int .i64 X1, .int .i64 yb] 68)).heap[gp]? = some (.cells #[.int .i64 X, .int .i64 Y] 146 (0, 0))) := Lib.hid ⟨HQ.out.1.go hbd, (hbd.block gp hgpl).trans HQ.out.2⟩
         have HAQ : Hid (some gp ≠ vf2.ownBlock ∧ some g ≠ vf2.ownBlock ∧ some g5 ≠ vf2.ownBlock) := Lib.hid ⟨blk_ap HQ.out.2 HQ.out.1.oF (by decide), by obtain ⟨_, e⟩ := own_blk HQ.out.1.oC; exact blk_ap e HQ.out.1.oF (by decide), by obtain ⟨_, e⟩ := own_blk HQ.out.1.oR; exact blk_ap e HQ.out.1.oF (by decide)⟩
         have HOW := Lib.hid HKD.out.1.oF
         have HSZ := Lib.hid HKD.out.1.bel.size
         have HGROW : Hid (∀ v6 w6, w6.ownsRow w.heap.size 68 4 v6 (F2.length + 1) (rcells F2 ++ [.int .i64 X, .int .i64 ya, .int .i64 X1, .int .i64 yb]) → (wr.drew.alloc (.cells #[.int .i64 X, .int .i64 ya, .int .i64 X1, .int .i64 yb] 68)).grownBy w6 vf2.ownBlock → Fm3 (.slice (some ⟨g, 0, none⟩) n c9) v6 (.slice (some ⟨g5, 0, none⟩) nR c5) C (F2 ++ [⟨X, ya, X1, yb⟩]) R3 w w6 ∧ w6.heap[gp]? = some (.cells #[.int .i64 X, .int .i64 Y] 146 (0, 0))) := Lib.hid (fun v6 w6 ho hgr => ⟨HKD.out.1.recs (by rw [List.length_append, rcells_append]; exact ho) hgr, (hgr.block gp (Array.getElem?_eq_some_iff.1 HKD.out.2).1 HAQ.out.1).trans HKD.out.2⟩)
         clear hbd HKD HQ
         have r0 : IntKind.i64.wrap (q : Int) = (q : Int) := IntWalk.i64_in _ (by omega)
         have p0 : (0 : Int) ≤ (q : Int) := by omega
         have p1 : (q : Int) < (nR : Int) := by omega
         have p2 : (q : Int) + 1 < (nR : Int) := by omega
         have p3 : (0 : Int) ≤ (q : Int) + 1 := by omega
         have jq : ((q : Int) + 1).toNat = q + 1 := by omega
         have hF2l : F2.length ≤ 4300000000000 := by omega
         go_wp2_with fail
         refine wp_region_held_drew (S := (fun w' => w'.cell? ⟨gp, 0, none⟩ = some (.int .i64 X) ∧ w'.cell? ⟨g, (k + 1) * 2, none⟩ = some (.int .i64 X1) ∧ w'.cell? ⟨g5, q, none⟩ = some (.int .i64 ya) ∧ w'.cell? ⟨g5, q + 1, none⟩ = some (.int .i64 yb) ∧ gp < w'.heap.size ∧ g < w'.heap.size ∧ g5 < w'.heap.size ∧ Hid (Below wr.heap.size wr w' ∨ True))) (by kernel_rfl) ?_ (fun hHeld => ?_)
         ·exact HPF.out.go (below_drewN (Below.refl _ _) 1)
         refine tkLB (i := 0) (oi := ⟨some 80, .move (.tmp 7), 30, "cells.go:104", #[], none⟩) rfl ?_
         try simp only [sxLB]
         refine tkLB (i := 1) (oi := ⟨some 81, .fieldAddr 146 (.tmp 10) 0, 0, "cells.go:104", #[], none⟩) rfl ?_
         try simp only [sxLB]
         refine tkLB (i := 2) (oi := ⟨some 82, .load 3 (.tmp 81), 3, "cells.go:104", #[⟨1, .data⟩], none⟩) rfl ?_
         try simp only [sxLB]
         refine tkLB (i := 3) (oi := ⟨some 83, .move (.tmp 8), 31, "cells.go:104", #[], none⟩) rfl ?_
         try simp only [sxLB]
         refine tkLB (i := 4) (oi := ⟨some 84, .move (.tmp 11), 3, "cells.go:104", #[], none⟩) rfl ?_
         try simp only [sxLB]
         refine tkLB (i := 5) (oi := ⟨some 85, .binOp .sub 3 (.tmp 84) (.const (.int .i64 1)) 3, 3, "cells.go:104", #[⟨4, .data⟩], none⟩) rfl ?_
         try simp only [sxLB]
         refine tkLB (i := 6) (oi := ⟨some 86, .indexAddr 31 (.tmp 83) (.tmp 85), 0, "cells.go:104", #[⟨3, .data⟩, ⟨5, .data⟩], none⟩) rfl ?_
         try simp only [sxLB]
         refine tkLB (i := 7) (oi := ⟨some 87, .load 3 (.tmp 86), 3, "cells.go:104", #[⟨6, .data⟩], none⟩) rfl ?_
         try simp only [sxLB]
         refine tkLB (i := 8) (oi := ⟨some 88, .move (.tmp 4), 144, "cells.go:104", #[], none⟩) rfl ?_
         try simp only [sxLB]
         refine tkLB (i := 9) (oi := ⟨some 89, .move (.tmp 9), 3, "cells.go:104", #[], none⟩) rfl ?_
         try simp only [sxLB]
         refine tkLB (i := 10) (oi := ⟨some 90, .binOp .add 3 (.tmp 89) (.const (.int .i64 1)) 3, 3, "cells.go:104", #[⟨9, .data⟩], none⟩) rfl ?_
         try simp only [sxLB]
         refine tkLB (i := 11) (oi := ⟨some 91, .indexAddr 144 (.tmp 88) (.tmp 90), 0, "cells.go:104", #[⟨8, .data⟩, ⟨10, .data⟩], none⟩) rfl ?_
         try simp only [sxLB]
         refine tkLB (i := 12) (oi := ⟨some 92, .fieldAddr 146 (.tmp 91) 0, 0, "cells.go:104", #[⟨11, .data⟩], none⟩) rfl ?_
         try simp only [sxLB]
         refine tkLB (i := 13) (oi := ⟨some 93, .load 3 (.tmp 92), 3, "cells.go:104", #[⟨12, .data⟩], none⟩) rfl ?_
         try simp only [sxLB]
         refine tkLB (i := 14) (oi := ⟨some 94, .move (.tmp 8), 31, "cells.go:104", #[], none⟩) rfl ?_
         try simp only [sxLB]
         refine tkLB (i := 15) (oi := ⟨some 95, .move (.tmp 11), 3, "cells.go:104", #[], none⟩) rfl ?_
         try simp only [sxLB]
         refine tkLB (i := 16) (oi := ⟨some 96, .indexAddr 31 (.tmp 94) (.tmp 95), 0, "cells.go:104", #[⟨14, .data⟩, ⟨15, .data⟩], none⟩) rfl ?_
         try simp only [sxLB]
         refine tkLB (i := 17) (oi := ⟨some 97, .load 3 (.tmp 96), 3, "cells.go:104", #[⟨16, .data⟩], none⟩) rfl ?_
         try simp only [sxLB]
         refine tkLB (i := 18) (oi := ⟨some 98, .build 68 #[(0, .tmp 82), (1, .tmp 87), (2, .tmp 93), (3, .tmp 97)], 68, "cells.go:104", #[⟨2, .data⟩, ⟨7, .data⟩, ⟨13, .data⟩, ⟨17, .data⟩], none⟩) rfl ?_
         try simp only [sxLB]
         refine wpAnyH_ready (rs := [19]) (by kernel_rfl) (by simp) ?_
         refine AllReadyH.cons (o := ⟨some 99, .buildSlice 30 1 #[(0, .tmp 98)], 30, "cells.go:104", #[⟨18, .data⟩], none⟩) rfl (fun Kx hKx => ?_) AllReadyH.nil
         go_simp
         refine hKx.out _ _ (Pf13.go ‹_› ((Below.refl _ _).alloc (Nat.le_refl _) _)) (fun hHeld2 => ?_)
         clear hKx Kx hHeld
         have hHeld := hHeld2; clear hHeld2
         try simp only [sxLB]
         refine wpAnyH_ready (rs := [20]) (by kernel_rfl) (by simp) ?_
         refine AllReadyH.cons (o := ⟨some 100, .call { callee := .builtin .append, args := #[.tmp 80, .tmp 99], argTypes := #[30, 30] }, 30, "cells.go:104", #[⟨0, .data⟩, ⟨19, .data⟩], none⟩) rfl (fun Kx hKx => ?_) AllReadyH.nil
         try simp only [sxLB]
         refine wp_append_own _ (Operand.tmp 80) (Operand.tmp 99) 30 rfl w.heap.size 68 i2 (.agg #[.int .i64 0, .int .i64 0, .int .i64 0, .int .i64 0]) 4 32 Tryz.underlying30 hk9 hk0 hk1 hk2 rfl (by decide) vf2 F2.length (rcells F2) rfl HOW.out ⟨wr.drew.heap.size, 0, none⟩ 1 1 [.int .i64 X, .int .i64 ya, .int .i64 X1, .int .i64 yb] rfl rfl ?d1 ?d2 ?d3 ?d4 ?d5 ?_
         case d1 => exact World.news_of_block (cs := #[.int .i64 X, .int .i64 ya, .int .i64 X1, .int .i64 yb]) (t := 68) (fr := (0, 0)) (heap_alloc_new wr.drew _)
         case d2 => intro u hu; simp only [List.mem_cons, List.not_mem_nil, or_false] at hu; rcases hu with rfl | rfl | rfl | rfl <;> rfl
         case d3 => unfold maxLen; omega
         case d4 => omega
         case d5 => exact HSZ.out
         intro v8 w8 hown8 hgr8 _
         have HW8 := Lib.hid (HGROW.out v8 w8 hown8 hgr8)
         refine hKx.out _ _ (Pf13.grow ‹_› hgr8 HAQ.out.1 HAQ.out.2.1 HAQ.out.2.2) (fun hHeld2 => ?_)
         clear hKx Kx hHeld hown8 hgr8
         have hHeld := hHeld2; clear hHeld2
         try simp only [sxLB]
         refine tkLB (i := 21) (oi := ⟨some 7, .assign (.tmp 100), 30, "cells.go:104", #[⟨20, .data⟩, ⟨20, .chain⟩, ⟨0, .phase⟩, ⟨1, .phase⟩, ⟨2, .phase⟩, ⟨3, .phase⟩, ⟨4, .phase⟩, ⟨5, .phase⟩, ⟨6, .phase⟩, ⟨7, .phase⟩, ⟨8, .phase⟩, ⟨9, .phase⟩, ⟨10, .phase⟩, ⟨11, .phase⟩, ⟨12, .phase⟩, ⟨13, .phase⟩, ⟨14, .phase⟩, ⟨15, .phase⟩, ⟨16, .phase⟩, ⟨17, .phase⟩, ⟨18, .phase⟩, ⟨19, .phase⟩, ⟨20, .phase⟩], none⟩) rfl ?_
         try simp only [sxLB]
         refine wpAnyH_done (by kernel_rfl) ?_ _
         clear hHeld
         go_wp2_with fail
         go_roundw
         case rel => exact ⟨q + 2, v8, F2 ++ [⟨X, ya, X1, yb⟩], by omega, by omega, by go_num, rfl, HW8, HQ3, by simp; omega⟩
         case measure => simp [intOf]; omega
        ·obtain rfl : q = nR := by omega
         have HFN2 : Hid (formL l = F2 ++ polyR (colT l) (dX (C.drop (k + 1)))) := Lib.hid (by rw [HFN.out, HQF.out, HNR.out, List.take_length])
         have HQ2 := Lib.hid HQ.out.1
         clear HQ HQF HFN HCX hev
         obtain ⟨A8, c8, rfl, _⟩ := own_rects HQ2.out.oF
         by_cases h200 : F2.length ≤ 200
         ·have s1 : ¬ (200 : Int) < (F2.length : Int) := by omega
          go_wp2_with fail
          go_roundw
          case rel => exact ⟨k + 1, _, _, F2, R3, by omega, by go_num, rfl, rfl, Lib.hid (HQ2.out.go (by (repeat' first | exact Below.refl _ _ | assumption | (apply below_drewN) | (refine Below.setCell ?_ (by (try simp); (try omega)) _) | (refine Below.alloc ?_ (by (try simp); (try omega)) _) | (refine Below.trans ?_ (Below.mono (Hid.out (by assumption)) (by (try simp); (try omega))))))), HFN2, HPR3, by have := HNR.out; omega, h200⟩
          case measure => simp [intOf]; omega
         ·have s1 : (200 : Int) < (F2.length : Int) := by omega
          have HRS : Hid (ResIs (capR (formL l)) w (.returned (.tuple #[.slice none 0 0, .int .i64 6])) wr) := Lib.hid (by
           have : ¬ (formL l).length ≤ 200 := by rw [HFN2.out, List.length_append]; omega
           unfold capR
           rw [if_neg this]
           exact ⟨_, rfl, World.ownsRow_nil _ _ _ _, HQ2.out.bel⟩)
          clear HQ2 HFN2 HPR3
          go_wp2_with fail
          go_ret2
          obtain ⟨v2, e2, h2, h3⟩ := HRS.out
          exact ⟨v2, e2, own_go h2 (by (repeat' first | exact Below.refl _ _ | assumption | (apply below_drewN) | (refine Below.setCell ?_ (by (try simp); (try omega)) _) | (refine Below.alloc ?_ (by (try simp); (try omega)) _) | (refine Below.trans ?_ (Below.mono (Hid.out (by assumption)) (by (try simp); (try omega)))))), h3.trans (by (repeat' first | exact Below.refl _ _ | assumption | (apply below_drewN) | (refine Below.setCell ?_ (by (try simp); (try omega)) _) | (refine Below.alloc ?_ (by (try simp); (try omega)) _) | (refine Below.trans ?_ (Below.mono (Hid.out (by assumption)) (by (try simp); (try omega))))))⟩
     ·obtain rfl : n = k + 1 := by omega
      have c1C : k + 1 = C.length := HNC.out
      have g0 : decide ((k : Int) + 1 < ((k + 1 : Nat) : Int)) = false := by simp
      have HR3 := Lib.hid (HROW.out (fun h => by omega))
      have HCZ : Hid (colS l X = []) := Lib.hid (HLST.out c1C)
      have HFN : Hid (formL l = F ++ polyR (colT l) (dX (C.drop (k + 1)))) := Lib.hid (by
       rw [HFO.out, HDX.out.2.2 c1C, c1C, List.drop_length]; rfl)
      have HK5N : Hid (∀ z, Fm3 (.slice (some ⟨g, 0, none⟩) (k + 1) c9) vf (.slice (some ⟨g5, 0, none⟩) R2.length c5) C F R2 w (w5.drewN z)) := Lib.hid (fun z => HK5.out.go (below_drewN (Below.refl _ _) z))
      have HOD := Lib.hid (fun z => oddI_any w.heap.size g5 c5 R2 (w5.drewN z) (HK5N.out z).oR (by omega))
      clear HROW HDX HLST HX5 HFO HK5 hpt c1C
      go_wp2_with fail
      go_quiet (fail)
      go_wp2_with fail
      refine (HOD.out _).mono ?_
      rintro e w6 ⟨T, hp, hs, rfl, hown, hgr⟩
      have e3 := HR3.out T hp hs
      rw [HCZ.out] at e3
      have HPR3 : Hid (∀ q : Int → Bool, ([] : List Int).countP q % 2 = (C.take (k + 1)).countP (fun p => q p.2) % 2) := Lib.hid (fun q => by rw [← e3, oddL_par, hp.countP_eq]; exact HNP.out q)
      rw [e3] at hown ⊢
      have HK6 : Hid (Fm3 (.slice (some ⟨g, 0, none⟩) (k + 1) c9) vf (.slice (some ⟨g5, 0, none⟩) 0 c5) C F [] w w6) := Lib.hid ((HK5N.out _).rows hown hgr)
      clear hown hgr e3 hp hs HR3 HK5N HOD HNP
      obtain ⟨A8, c8, rfl, _⟩ := own_rects HK6.out.oF
      go_wp2_with fail
      go_loopw [7, 11] (fun v i wr => i = .int .i64 1 ∧ v = .slice A8 F.length c8 ∧ Hid (Fm3 (.slice (some ⟨g, 0, none⟩) (k + 1) c9) (.slice A8 F.length c8) (.slice (some ⟨g5, 0, none⟩) 0 c5) C F [] w wr)) (fun _ i _ => 0)
      case atStart => exact ⟨rfl, rfl, HK6⟩
      case round =>
       clear HK6
       obtain ⟨rfl, rfl, HQ⟩ := hrel
       have s1 : ¬ (200 : Int) < (F.length : Int) := by omega
       go_wp2_with fail
       go_roundw
       case rel => exact ⟨_, _, _, _, _, _, _, _, ⟨k + 1, by omega, by first | rfl | go_num, F, [], Lib.hid (HQ.out.go (by (repeat' first | exact Below.refl _ _ | assumption | (apply below_drewN) | (refine Below.setCell ?_ (by (try simp); (try omega)) _) | (refine Below.alloc ?_ (by (try simp); (try omega)) _) | (refine Below.trans ?_ (Below.mono (Hid.out (by assumption)) (by (try simp); (try omega))))))), HFN, HPR3, by simp, hFl⟩, rfl, rfl, rfl, rfl, rfl, rfl, rfl, by go_num⟩
       case measure => (simp [intOf]) <;> omega
    ·obtain rfl : k = n := by omega
     have HE : Hid (formL l = F) := Lib.hid (by rw [HFO.out, HNC.out, List.drop_eq_nil_of_le (Nat.le_refl _)]; simp [dX, polyR])
     have HRS : Hid (ResIs (capR (formL l)) w (.returned (.tuple #[vf, .int .i64 0])) wr) := Lib.hid (by
      rw [HE.out]
      unfold capR
      rw [if_pos hFl]
      exact ⟨vf, rfl, HK.out.oF, HK.out.bel⟩)
     clear HK HFO HPR HE
     go_wp2_with fail
     go_ret2
     obtain ⟨v2, e2, h2, h3⟩ := HRS.out
     exact ⟨v2, e2, own_go h2 (by (repeat' first | exact Below.refl _ _ | assumption | (apply below_drewN) | (refine Below.setCell ?_ (by (try simp); (try omega)) _) | (refine Below.alloc ?_ (by (try simp); (try omega)) _) | (refine Below.trans ?_ (Below.mono (Hid.out (by assumption)) (by (try simp); (try omega)))))), h3.trans (by (repeat' first | exact Below.refl _ _ | assumption | (apply below_drewN) | (refine Below.setCell ?_ (by (try simp); (try omega)) _) | (refine Below.alloc ?_ (by (try simp); (try omega)) _) | (refine Below.trans ?_ (Below.mono (Hid.out (by assumption)) (by (try simp); (try omega))))))⟩
end Go.Proofs.YtngddecpfhlilaaGreat
