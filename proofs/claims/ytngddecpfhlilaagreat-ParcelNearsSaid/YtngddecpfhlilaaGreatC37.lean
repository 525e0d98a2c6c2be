/-
  Contracts of layer 13 (27): Join.
-/
import Derived.Test.YtngddecpfhlilaaGreatC36
import Derived.Deep.RegionHeld3
set_option linter.unusedVariables false
set_option maxRecDepth 100000
namespace Go.Proofs.YtngddecpfhlilaaGreat
open Go.RowKit
theorem tkLK {v : Value} {P : Program} {ops : Array Oper} {Q : Exit → Act → World → Prop} {md : Region.Mode} {S : World → Prop} {i : Nat} {oi : Oper} {fuel : Nat} {listed : Array Bool} {a : Act} {w : World} (hi : ops[i]? = some oi) (h : wpAnyH P md ops Q S fuel (listed.setIfInBounds i true) (a.put oi.dst v) w) (hy : ∀ w, S w → (execOp a.eval oi).run P w = .ok (.value v) w := by (intro w hSw; (try dsimp only at hSw); go_simp); try with_reducible rfl) (hs : Region.noSelect ops = true := by kernel_rfl) (hf : Region.free md ops listed i = true := by kernel_rfl) (hr : (Region.ready md ops listed).contains i = true := by kernel_rfl) (hQ : ∀ c a w, Q (.panic c) (a.put oi.dst v) w → Q (.panic c) a w := by exact fun _ _ _ h => h) (hg : Region.wanted oi (yielded ops a.tmps) = true := by rfl) (hS : S w := by assumption) : wpAnyH P md ops Q S (fuel + 1) listed a w :=
 wpAnyH_take hi hs hf hr hQ (Or.inl ⟨hg, hy⟩) hS h
theorem sxLK : (∀ (a : Act) (v : Value), a.put none v = a) ∧ (∀ (a : Act) (d : Tmp) (v : Value), a.put (some d) v = { a with tmps := a.tmps.setIfInBounds d v }) ∧ (∀ {α : Type} (l : List α) (i : Nat) (x : α), l.toArray.setIfInBounds i x = (l.set i x).toArray) ∧ (∀ {α : Type} (l : List α) (x y : α), (x :: l).set 0 y = y :: l) ∧ (∀ {α : Type} (l : List α) (x y : α) (n : Nat), (x :: l).set (n + 1) y = x :: l.set n y) :=
 ⟨fun _ _ => rfl, fun _ _ _ => rfl, fun _ _ _ => List.setIfInBounds_toArray .., fun _ _ _ => rfl, fun _ _ _ _ => rfl⟩
noncomputable def joinG (L : List Lt) (G : List Int) (n : Nat) (k : Int) : List Lt × Int :=
 if (landB L && decide (2 ≤ n) && decide (G.length = n) && nB k) = false then ([], 1) else
 match findAll L G with
 | none => ([], 4)
 | some [] => ([], 4)
 | some (t :: ts) =>
  if takB L k = true then ([], 5)
  else if ((t :: ts).any fun u => decide (u.ow ≠ t.ow)) = true then ([], 24)
  else if 200 < (formL (cellsR (t :: ts))).length then ([], 6)
  else if oneB (formL (cellsR (t :: ts))) = false then ([], 12)
  else (chL G [⟨k, t.ow, formL (cellsR (t :: ts)), lineS (t :: ts)⟩] L, 0)
theorem ids_filter (p : Lt → Bool) : ∀ L : List Lt, (idsL (L.filter p)).length ≤ (idsL L).length
 | [] => Nat.le_refl _
 | t :: L => by
  have ih := ids_filter p L
  rw [List.filter_cons]
  split
  ·show ((t.id :: t.fr) ++ idsL (L.filter p)).length ≤ ((t.id :: t.fr) ++ idsL L).length
   rw [List.length_append, List.length_append]; omega
  ·show _ ≤ ((t.id :: t.fr) ++ idsL L).length
   rw [List.length_append]; omega
def Pj13 (g : Nat) (ow : Int) (w0 w' : World) : Prop := w'.cell? ⟨g, 0, none⟩ = some (.int .i64 ow) ∧ g < w'.heap.size ∧ Hid (Below w0.heap.size w0 w')
theorem Pj13.go {g : Nat} {ow : Int} {w0 w w' : World} (h : Pj13 g ow w0 w) (hb : Below w.heap.size w w') : Pj13 g ow w0 w' :=
 ⟨(hb.cell (p := ⟨g, 0, none⟩) h.2.1).trans h.1, Nat.lt_of_lt_of_le h.2.1 hb.size, Lib.hid (h.2.2.out.trans (hb.mono h.2.2.out.size))⟩
theorem asc_take : ∀ {t : List Int}, Asc t → ∀ n, Asc (t.take n)
 | [], _, n => by simp [Asc]
 | a :: t, h, 0 => trivial
 | a :: t, h, n + 1 => by
  rw [List.take_succ_cons]
  exact Asc.cons (asc_take h.tail n) (fun x hx => h.lt x (List.mem_of_mem_take hx))
set_option maxHeartbeats 32000000 in
theorem join13_any (A : Option Addr) (cap : Nat) (L : List Lt) (B : Option Addr) (cb : Nat) (o : List Int) (k : Int) (w : World) (h : LtIn w A cap L) (ho : NIn w B cb o) (hids : (idsL L).length ≤ 274877906944) :
  Calls Tryz.prog 34 #[.slice A L.length cap, .slice B o.length cb, .int .i64 k] w (OpR (joinG L (sortS o) o.length k) w) := by
 obtain ⟨i1, hj9, hy0, hy1, hy2⟩ := info_parts infoLot
 have HAS := Lib.hid (asc_any B cb o w ho)
 have HR := Lib.hid (fun w' (hb : Below w.heap.size w w') => right13_any A cap L w' (h.below hb))
 have HNK := Lib.hid (fun w' => num_any k w')
 have HIX := Lib.hid (fun (h1 : landB L = true) (x : Int) w' (hb : Below w.heap.size w w') => ix_any A cap L x w' (h.below hb) ((landB_iff L).1 h1).asc)
 have HTK := Lib.hid (fun w' (hb : Below w.heap.size w w') => taken_any A cap L k w' (h.below hb))
 have HLA : Hid (landB L = true → LandP L) := Lib.hid (fun h1 => (landB_iff L).1 h1)
 have HCH : Hid (landB L = true → takB L k = false → ∀ (G : List Int) (AG : Option Addr) (cg : Nat) (u : Lt), Asc G → u.id = k → ∀ w' pb (p : LtP), Below w.heap.size w w' → NIn w' AG cg G → LtAt w' pb u p → LtI w' u p → Calls Tryz.prog 80 #[.slice A L.length cap, .slice AG G.length cg, .slice (some ⟨pb, 0, none⟩) 1 1] w' (fun e w2 => ∃ A c, e = .returned (.slice A (chL G [u] L).length c) ∧ LtIn w2 A c (chL G [u] L) ∧ Below w.heap.size w w2 ∧ Below w'.heap.size w' w2)) := Lib.hid (fun h1 h2 G AG cg u hG hu w' pb p hb hg hp hi => by
  have hL := (landB_iff L).1 h1
  refine (changed_any A cap L G AG cg [u] (some ⟨pb, 0, none⟩) 1 w' (h.below hb) hg hG (LtIn.one hp hi) (by have := hL.len; omega) (by simp)).mono (fun e w2 hc => ?_)
  obtain ⟨A2, c2, R, rfl, h4, hpm, hs, hb2⟩ := hc
  have e := ch_eq (N := [u]) hL.asc (show DifL [u] from ⟨(fun z hz => nomatch hz), trivial⟩) (fun z hz y hy _ c => by
   obtain rfl : z = u := by simpa using hz
   have : takB L k = true := (takB_iff L k).2 ⟨y, hy, .inl (by rw [c, hu])⟩
   rw [h2] at this; exact absurd this (by simp)) hpm hs
  subst e
  exact ⟨A2, c2, rfl, h4, hb.trans (hb2.mono hb.size), hb2⟩)
 have HAT := Lib.hid (fun i (hi : i < L.length) => h.at_ hi)
 have hlen := h.len
 have holen := ho.len
 have hGl := sortS_len o
 have HIDS := Lib.hid hids
 clear h ho hids
 have HGA := Lib.hid (sortS_is o).1
 obtain ⟨X, hX⟩ : ∃ X, X = joinG L (sortS o) o.length k := ⟨_, rfl⟩
 rw [← hX]
 have HX := Lib.hid hX; clear hX
 unfold joinG at HX
 unfold AscR at HAS
 generalize sortS o = G at *
 generalize takB L k = tk at *
 generalize nB k = nk at *
 generalize landB L = lb at *
 go_enter Tryz.func34, Tryz.ntmps34
 go_wp2_with fail
 refine HAS.out.mono ?_
 rintro e w1 ⟨A1, c1, rfl, hn1, _, hb1⟩
 have HB1 := Lib.hid hb1
 have HN1 := Lib.hid (fun w' (hb : Below w1.heap.size w1 w') => hn1.below hb)
 obtain ⟨gb, go, hgA, hgc⟩ := hn1.place
 have HGC := Lib.hid hgc
 clear hn1 hb1 hgc HAS
 go_wp2_with fail
 refine (HR.out _ HB1.out).mono ?_
 rintro e w2 ⟨rfl, hb⟩
 have HB2 := Lib.hid (HB1.out.trans (hb.mono HB1.out.size))
 have HC2 := Lib.hid hb; clear hb
 cases lb
 ·have HV : Hid (X = ([], 1)) := Lib.hid (by rw [HX.out]; simp)
  clear HX
  go_wp2_with fail
  go_ret2
  rw [HV.out]; exact OpR.err 1 HB2.out
 ·by_cases ho2 : o.length < 2
  ·have s0 : (o.length : Int) < 2 := by omega
   have HV : Hid (X = ([], 1)) := Lib.hid (by rw [HX.out]; rw [if_pos (by simp; omega)])
   clear HX
   go_wp2_with fail
   go_ret2
   rw [HV.out]; exact OpR.err 1 HB2.out
  ·have s0 : ¬ (o.length : Int) < 2 := by omega
   by_cases hGo : G.length < o.length
   ·have s1 : (G.length : Int) < (o.length : Int) := by omega
    have HV : Hid (X = ([], 1)) := Lib.hid (by rw [HX.out]; rw [if_pos (by simp; omega)])
    clear HX
    go_wp2_with fail
    go_ret2
    rw [HV.out]; exact OpR.err 1 HB2.out
   ·have s1 : ¬ (G.length : Int) < (o.length : Int) := by omega
    have HGO : Hid (G.length = o.length) := Lib.hid (by omega)
    have hG2 : 2 ≤ G.length := by omega
    go_wp2_with fail
    refine (HNK.out _).mono ?_
    rintro e w3 ⟨rfl, hb⟩
    have HB3 := Lib.hid (HB2.out.trans (hb.mono HB2.out.size))
    have HC3 := Lib.hid (HC2.out.trans (hb.mono HC2.out.size)); clear hb
    cases nk
    ·have HV : Hid (X = ([], 1)) := Lib.hid (by rw [HX.out]; simp)
     clear HX
     go_wp2_with fail
     go_ret2
     rw [HV.out]; exact OpR.err 1 HB3.out
    ·obtain ⟨rfl, hgb⟩ := hgA (by omega)
     have hLl := (HLA.out trivial).len
     have HX2 : Hid (X = match findAll L G with | none => (([] : List Lt), (4 : Int)) | some [] => ([], 4) | some (t :: ts) => if tk = true then ([], 5) else if ((t :: ts).any fun u => decide (u.ow ≠ t.ow)) = true then ([], 24) else if 200 < (formL (cellsR (t :: ts))).length then ([], 6) else if oneB (formL (cellsR (t :: ts))) = false then ([], 12) else (chL G [⟨k, t.ow, formL (cellsR (t :: ts)), lineS (t :: ts)⟩] L, 0)) := Lib.hid (by
      rw [HX.out, if_neg (by simp [HGO.out]; omega)])
     have HX := HX2; clear HX2
     have HJ0 : Hid (JW (.slice none 0 0) [] w1 w3) := Lib.hid (JW.start HC3.out)
     have HIW := Lib.hid (fun (t : Lt) (p : LtP) (hi : LtI w t p) => hi.below HB1.out)
     clear HR HNK hgA ho2 hGo
     go_wp2_with fail
     go_loopw [9, 41] (fun v i wr => ∃ (j : Nat) (a : Value) (T : List LtV), j ≤ G.length ∧ i = .int .i64 j ∧ a = v ∧ T.length = j ∧ Hid (findAll L (G.take j) = some (tvS T)) ∧ Hid (JW a T w1 wr)) (fun _ i _ => G.length - (intOf i).toNat)
     case atStart => exact ⟨0, _, [], Nat.zero_le _, rfl, rfl, rfl, Lib.hid rfl, HJ0⟩
     case round =>
      clear HJ0
      obtain ⟨j, v, T, hj, rfl, rfl, hTj, HFA, HJ⟩ := hrel
      have HTJ := Lib.hid hTj; clear hTj
      have HBR := Lib.hid (HB1.out.trans (HJ.out.bel.mono HB1.out.size))
      by_cases hjt : j < G.length
      ·have x0 := (HJ.out.bel.cell (p := ⟨gb, go + j, none⟩) hgb).trans (HGC.out j hjt)
       have hgw := Nat.lt_of_lt_of_le hgb HJ.out.bel.size
       have n0 : (0 : Int) ≤ (j : Int) := by omega
       have n1 : (j : Int) < (G.length : Int) := by omega
       go_wp2_with fail
       refine (HIX.out trivial _ _ HBR.out).mono ?_
       rintro e w5 ⟨i, bx, rfl, h1, h2, hb⟩
       have HB5 := Lib.hid (HBR.out.trans (hb.mono HBR.out.size))
       have HJ5 := Lib.hid (HJ.out.go hb); clear hb
       cases bx
       ·have hn := findAll_none (List.getElem_mem hjt) (h2 rfl)
        have HV : Hid (X = ([], 4)) := Lib.hid (by rw [HX.out]; rw [hn])
        clear HX
        go_wp2_with fail
        go_ret2
        rw [HV.out]; exact OpR.err 4 HB5.out
       ·obtain ⟨hi, hf, hid⟩ := h1 rfl
        have HF2 : Hid (findAll L (G.take (j + 1)) = some (tvS T ++ [L[i]])) := Lib.hid (by
         rw [← List.take_append_getElem hjt]
         exact findAll_snoc HFA.out hf)
        obtain ⟨ab, ao, p, rfl, hb, hc, hI⟩ := HAT.out i hi
        obtain ⟨y0, y1, y2, y3⟩ := hc.below hb HB5.out
        have m0 : (0 : Int) ≤ (i : Int) := by omega
        have m1 : (i : Int) < (L.length : Int) := by omega
        have HII := Lib.hid (HIW.out _ _ hI)
        have hbw : ab < w5.heap.size := Nat.lt_of_lt_of_le hb HB5.out.size
        clear h1 h2 hI hc hid hf x0 hgw HFA
        generalize L[i] = t at *
        obtain ⟨id, ow, ar, fr⟩ := t
        obtain ⟨PA, PC, PB, PD⟩ := p
        simp only at y0 y1 y2 y3
        have HJ6 := Lib.hid (HJ5.out.go ((Below.refl _ _).alloc (Nat.le_refl _) (.cells #[.int .i64 id, .int .i64 ow, .slice PA ar.length PC, .slice PB fr.length PD] 40)))
        have hTl : T.length ≤ 20000 := by
         have h5 := HTJ.out
         have h6 := hGl
         have h7 := (findAll_ids HF2.out).1
         have h8 := findAll_sub (HLA.out trivial).asc (asc_take HGA.out (j + 1)) HF2.out
         have h9 : (tvS T ++ [(⟨id, ow, ar, fr⟩ : Lt)]).length ≤ L.length := by rw [h8]; exact List.length_filter_le _ _
         rw [List.length_append, tvS_len] at h9
         omega
        go_wp2_with (at_builtin; refine wpList_append_own _ rfl _ _ 22 rfl w1.heap.size 40 i1 (.agg #[.int .i64 0, .int .i64 0, .slice none 0 0, .slice none 0 0]) 4 64 Tryz.underlying22 hj9 hy0 hy1 hy2 rfl (by decide) _ _ _ rfl HJ6.out.own ⟨w5.heap.size, 0, none⟩ 1 1 [.int .i64 id, .int .i64 ow, .slice PA ar.length PC, .slice PB fr.length PD] rfl rfl ?d1 ?d2 ?d3 ?d4 ?d5 ?_)
        case d1 => exact World.news_of_block (cs := #[.int .i64 id, .int .i64 ow, .slice PA ar.length PC, .slice PB fr.length PD]) (t := 40) (fr := (0, 0)) (heap_alloc_new w5 _)
        case d2 => intro z hz; simp only [List.mem_cons, List.not_mem_nil, or_false] at hz; rcases hz with rfl | rfl | rfl | rfl <;> rfl
        case d3 => unfold maxLen; omega
        case d4 => omega
        case d5 => exact HJ6.out.bel.size
        intro v7 w7 hown7 hgr7 _
        have HJ7 : Hid (JW v7 (T ++ [⟨⟨id, ow, ar, fr⟩, ⟨PA, PC, PB, PD⟩⟩]) w1 w7) := Lib.hid (HJ6.out.app (x := ⟨⟨id, ow, ar, fr⟩, ⟨PA, PC, PB, PD⟩⟩) HII.out hown7 hgr7)
        clear hown7 hgr7 HJ6 HJ5
        go_wp2_with fail
        go_roundw
        case rel => exact ⟨j + 1, v7, T ++ [⟨⟨id, ow, ar, fr⟩, ⟨PA, PC, PB, PD⟩⟩], by omega, by go_num, rfl, by rw [List.length_append, HTJ.out]; rfl, Lib.hid (by rw [tvS_append]; exact HF2.out), HJ7⟩
        case measure => simp [intOf]; omega
      ·obtain rfl : j = G.length := by omega
       rw [List.take_length] at HFA
       have HJB := Lib.hid HJ.out.bel
       obtain ⟨A9, c9, rfl, hlin⟩ := HJ.out.lin (by have := HTJ.out; omega)
       obtain ⟨hapt, hlots, hrok⟩ := cells_apt (HLA.out trivial) HGA.out HFA.out
       have hTS : (tvS T).length ≤ 20000 := by
        rw [findAll_sub (HLA.out trivial).asc HGA.out HFA.out]
        exact Nat.le_trans (List.length_filter_le _ _) hLl
       have hIDS : (idsL (tvS T)).length ≤ 274877906944 := by
        rw [findAll_sub (HLA.out trivial).asc HGA.out HFA.out]
        exact Nat.le_trans (ids_filter _ L) HIDS.out
       have hT1 : 0 < (tvS T).length := by rw [tvS_len]; have := HTJ.out; omega
       clear HTJ HJ
       generalize tvS T = TS at *
       have HLIN := Lib.hid (fun w' (hb : Below wr.heap.size wr w') => hlin.below hb)
       obtain ⟨b9, o9, p0, rfl, hb9, hc9, _⟩ := hlin.at_ (j := 0) hT1
       obtain ⟨_, z1, _, _⟩ := hc9
       simp only [Nat.zero_mul, Nat.add_zero] at z1
       obtain ⟨t, ts, hts⟩ : ∃ t ts, TS = t :: ts := by
        cases TS with
        | nil => simp at hT1
        | cons t ts => exact ⟨t, ts, rfl⟩
       have z2 : wr.cell? ⟨b9, o9 + 1, none⟩ = some (.int .i64 t.ow) := by
        rw [z1]; simp [hts]
       have HX3 : Hid (X = if tk = true then (([] : List Lt), (5 : Int)) else if (TS.any fun u => decide (u.ow ≠ t.ow)) = true then ([], 24) else if 200 < (formL (cellsR TS)).length then ([], 6) else if oneB (formL (cellsR TS)) = false then ([], 12) else (chL G [⟨k, t.ow, formL (cellsR TS), lineS TS⟩] L, 0)) := Lib.hid (by rw [HX.out, HFA.out, hts])
       have HX := HX3
       have hne : cellsR TS ≠ [] := by
        have h1 := (lotB_one (hlots t (by rw [hts]; simp))).2.1
        rw [hts]
        intro c
        have c2 : t.ar ++ cellsR ts = [] := c
        exact h1 (List.append_eq_nil_iff.1 c2).1
       have hcl : (cellsR TS).length ≤ 4000000 := by
        have := cellsR_len (L := TS) (fun t ht => (lotB_one (hlots t ht)).2.2)
        omega
       have HCE := Lib.hid (fun w' (hb : Below wr.heap.size wr w') => cells_any (some ⟨b9, o9, none⟩) c9 TS w' (HLIN.out w' hb) (fun t ht => ⟨(lotB_one (hlots t ht)).2.1, (lotB_one (hlots t ht)).2.2⟩) (by omega))
       have HFM := Lib.hid (fun A c w' (h : RIn w' A c (cellsR TS)) => form13_any A c (cellsR TS) w' h.row (by omega) hne hrok hapt)
       have HLI : Hid (∀ w', Below wr.heap.size wr w' → Calls Tryz.prog 79 #[.slice (some ⟨b9, o9, none⟩) TS.length c9] w' (fun e w2 => ∃ A c, e = .returned (.slice A (lineS TS).length c) ∧ NIn w2 A c (lineS TS) ∧ A ≠ none ∧ Below w'.heap.size w' w2)) := Lib.hid (fun w' hb => (line_any (some ⟨b9, o9, none⟩) c9 TS w' (HLIN.out w' hb) hIDS).mono (fun e w2 ⟨A, c, h1, h2, h3, h4⟩ => ⟨A, c, h1, h2, h3 (List.length_pos_of_mem (a := t.id) ((sortS_is _).2 _ |>.2 (by rw [hts]; simp [idsL]))), h4⟩))
       obtain ⟨ow, hw⟩ : ∃ ow, ow = t.ow := ⟨_, rfl⟩
       rw [← hw] at HX z2
       clear HX3 hts hw hne hcl hrok hapt hlots hlin z1 hIDS HFA HIX HAT
       have HCF : Hid (∀ w' pb, Below wr.heap.size wr w' → w'.cell? ⟨pb, 0, none⟩ = some (.int .i64 ow) → pb < w'.heap.size → Calls Tryz.prog 82 #[.slice (some ⟨b9, o9, none⟩) TS.length c9, .func (.func 83) #[] #[.pointer (some ⟨pb, 0, none⟩)]] w' (BlIs (TS.any fun u => decide (u.ow ≠ ow)) w')) := Lib.hid (fun w' pb hb h1 h2 => lcf_any 83 eg_jo #[.pointer (some ⟨pb, 0, none⟩)] (fun u => decide (u.ow ≠ ow)) (some ⟨b9, o9, none⟩) c9 TS w' (HLIN.out w' hb) (fun j hj w2 hb2 q hq => joinC_any TS[j] q ow pb w2 ((hb2.cell (p := ⟨pb, 0, none⟩) h2).trans h1) (Nat.lt_of_lt_of_le h2 hb2.size)))
       clear HLIN
       generalize lineS TS = FR at *
       generalize cellsR TS = CR at *
       generalize formL CR = FL at *
       generalize (TS.any fun u => decide (u.ow ≠ ow)) = mo at *
       obtain ⟨nT, hnT⟩ : ∃ nT, nT = TS.length := ⟨_, rfl⟩
       simp only [← hnT] at HCE HCF HLI hT1 hTS ⊢
       clear hnT t ts
       go_wp2_with fail
       refine (HTK.out _ HBR.out).mono ?_
       rintro e w6 ⟨rfl, hb⟩
       have HB6 := Lib.hid (HBR.out.trans (hb.mono HBR.out.size))
       have HC6 := Lib.hid hb
       have z3 := (hb.cell (p := ⟨b9, o9 + 1, none⟩) hb9).trans z2
       have hb96 := Nat.lt_of_lt_of_le hb9 hb.size
       have HWR1 : Hid (Below w1.heap.size w1 wr) := HJB
       clear hb z2
       cases tk
       rotate_left
       ·have HV : Hid (X = ([], 5)) := Lib.hid (by rw [HX.out]; simp)
        clear HX
        go_wp2_with fail
        go_ret2
        rw [HV.out]; exact OpR.err 5 HB6.out
       ·have n5 : (0 : Int) < (nT : Int) := by omega
        have hb6a : Below w6.heap.size w6 (w6.alloc (.cells #[.int .i64 ow] 3)) := (Below.refl _ _).alloc (Nat.le_refl _) _
        have HB6a := Lib.hid (HB6.out.trans (hb6a.mono HB6.out.size))
        have HC6a := Lib.hid (HC6.out.trans (hb6a.mono HC6.out.size))
        have HI6 := Lib.hid (heap_alloc_new w6 (.cells #[.int .i64 ow] 3))
        have hs6 : w6.heap.size < (w6.alloc (.cells #[.int .i64 ow] 3)).heap.size := by rw [World.size_alloc]; omega
        clear hb6a
        go_wp2_with fail
        refine (HCF.out _ _ HC6a.out (by rw [Lib.cell_of_heap HI6.out]; rfl) hs6).mono ?_
        rintro e w7 ⟨rfl, hb⟩
        have HB7 := Lib.hid (HB6a.out.trans (hb.mono HB6a.out.size))
        have HC7 := Lib.hid (HC6a.out.trans (hb.mono HC6a.out.size))
        have HP7 : Hid (Pj13 w6.heap.size ow w7 w7) := Lib.hid ⟨(hb.cell (p := ⟨w6.heap.size, 0, none⟩) hs6).trans (by rw [Lib.cell_of_heap HI6.out]; rfl), Nat.lt_of_lt_of_le hs6 hb.size, Lib.hid (Below.refl _ _)⟩
        clear hb hs6 HI6 z3 hb96
        cases mo
        rotate_left
        ·have HV : Hid (X = ([], 24)) := Lib.hid (by rw [HX.out]; simp)
         clear HX
         go_wp2_with fail
         go_ret2
         rw [HV.out]; exact OpR.err 24 HB7.out
        ·go_wp2_with fail
         refine (HCE.out _ HC7.out).mono ?_
         rintro e w8 ⟨A10, c10, rfl, hr10, hb⟩
         have HB8 := Lib.hid (HB7.out.trans (hb.mono HB7.out.size))
         have HC8 := Lib.hid (HC7.out.trans (hb.mono HC7.out.size))
         have HP8 := Lib.hid (HP7.out.go hb)
         have HR10 := Lib.hid hr10
         clear hb hr10
         go_wp2_with fail
         refine (HFM.out _ _ _ HR10.out).mono ?_
         rintro e w9 ⟨v9, rfl, ho9, hb⟩
         have HB9 := Lib.hid (HB8.out.trans (hb.mono HB8.out.size))
         have HC9 := Lib.hid (HC8.out.trans (hb.mono HC8.out.size))
         have HP9 := Lib.hid (HP8.out.go hb)
         clear hb
         obtain ⟨A11, c11, rfl, _, _, _, _, hn11⟩ := own_rects ho9
         have HN11 := Lib.hid hn11
         rcases cap_cases FL with ⟨i1, i2, i3⟩ | ⟨i1, i2, i3⟩
         ·have HR11 : Hid (∀ w', Below w9.heap.size w9 w' → RIn w' A11 c11 FL) := Lib.hid (fun w' hb => by
           rw [i1] at ho9
           exact (own_rin ho9 (by omega)).below hb)
          simp only [i1, i2]
          have I3 := Lib.hid i3
          clear ho9 i1 i2 i3 hn11
          have HON := Lib.hid (fun w' (hb : Below w9.heap.size w9 w') => one_any A11 c11 FL w' (HR11.out w' hb))
          have HX4 : Hid (X = if oneB FL = false then ([], 12) else (chL G [⟨k, ow, FL, FR⟩] L, 0)) := Lib.hid (by rw [HX.out]; simp only [Bool.false_eq_true, if_false]; rw [if_neg (by have := I3.out; omega)])
          have HX := HX4; clear HX4
          generalize oneB FL = p1 at *
          go_wp2_with fail
          refine (HON.out _ (Below.refl _ _)).mono ?_
          rintro e w10 ⟨rfl, hb⟩
          have HB10 := Lib.hid (HB9.out.trans (hb.mono HB9.out.size))
          have HC10 := Lib.hid (HC9.out.trans (hb.mono HC9.out.size))
          have HD10 := Lib.hid hb
          have HP10 := Lib.hid (HP9.out.go hb)
          clear hb
          cases p1
          ·have HV : Hid (X = ([], 12)) := Lib.hid (by rw [HX.out]; simp)
           clear HX
           go_wp2_with fail
           go_ret2
           rw [HV.out]; exact OpR.err 12 HB10.out
          ·have HV : Hid (X = (chL G [⟨k, ow, FL, FR⟩] L, 0)) := Lib.hid (by rw [HX.out]; simp)
           clear HX HP7 HP8 HP9 HON HCE HCF HFM HTK
           have HPW : Hid (Pj13 w6.heap.size ow w10 w10) := Lib.hid ⟨HP10.out.1, HP10.out.2.1, Lib.hid (Below.refl _ _)⟩
           generalize w6.heap.size = gI at *
           go_wp2_with fail
           refine wp_region_held_drew (S := (fun w' => w'.cell? ⟨gI, 0, none⟩ = some (.int .i64 ow) ∧ gI < w'.heap.size ∧ Hid (Below w10.heap.size w10 w'))) (by kernel_rfl) ?_ (fun hHeld => ?_)
           ·exact HPW.out.go (below_drewN (Below.refl _ _) 1)
           refine tkLK (i := 0) (oi := ⟨some 83, .move (.tmp 0), 22, "parcel.go:109", #[], none⟩) rfl ?_
           try simp only [sxLK]
           refine tkLK (i := 1) (oi := ⟨some 84, .move (.tmp 8), 31, "parcel.go:109", #[], none⟩) rfl ?_
           try simp only [sxLK]
           refine tkLK (i := 2) (oi := ⟨some 85, .move (.tmp 2), 3, "parcel.go:109", #[], none⟩) rfl ?_
           try simp only [sxLK]
           refine tkLK (i := 3) (oi := ⟨some 86, .load 3 (.tmp 14), 3, "parcel.go:109", #[], none⟩) rfl ?_
           try simp only [sxLK]
           refine tkLK (i := 4) (oi := ⟨some 87, .move (.tmp 15), 30, "parcel.go:109", #[], none⟩) rfl ?_
           try simp only [sxLK]
           refine tkLK (i := 5) (oi := ⟨some 88, .move (.tmp 9), 22, "parcel.go:109", #[], none⟩) rfl ?_
           try simp only [sxLK]
           refine wpAnyH_ready (rs := [6]) (by kernel_rfl) (by simp) ?_
           refine AllReadyH.cons (o := ⟨some 89, .call { callee := .value (.func 79), args := #[.tmp 88], argTypes := #[22] }, 31, "parcel.go:109", #[⟨5, .data⟩], none⟩) rfl (fun Kx hKx => ?_) AllReadyH.nil
           go_simp
           go_at_call 79
           refine (HLI.out _ (HC10.out.trans ((below_drewN (Below.refl _ w10) 1).mono HC10.out.size))).mono ?_
           rintro e w12 ⟨A12, c12, rfl, hn12, hne12, hb12⟩
           have HN12 := Lib.hid hn12
           have HE12 := Lib.hid hne12
           have HD12 : Hid (Below w10.heap.size w10 w12) := Lib.hid ((below_drewN (Below.refl w10.heap.size w10) 1).trans (hb12.mono (below_drewN (Below.refl w10.heap.size w10) 1).size))
           try go_wp2_with fail
           refine hKx.out _ _ (Pj13.go ‹_› hb12) (fun hHeld2 => ?_)
           clear hKx Kx hHeld hb12 hn12 hne12
           have hHeld := hHeld2; clear hHeld2
           try simp only [sxLK]
           refine tkLK (i := 7) (oi := ⟨some 90, .build 40 #[(0, .tmp 85), (1, .tmp 86), (2, .tmp 87), (3, .tmp 89)], 40, "parcel.go:109", #[⟨2, .data⟩, ⟨3, .data⟩, ⟨4, .data⟩, ⟨6, .data⟩], none⟩) rfl ?_
           try simp only [sxLK]
           refine wpAnyH_ready (rs := [8]) (by kernel_rfl) (by simp) ?_
           refine AllReadyH.cons (o := ⟨some 91, .buildSlice 22 1 #[(0, .tmp 90)], 22, "parcel.go:109", #[⟨7, .data⟩], none⟩) rfl (fun Kx hKx => ?_) AllReadyH.nil
           go_simp
           refine hKx.out _ _ (Pj13.go ‹_› ((Below.refl _ _).alloc (Nat.le_refl _) _)) (fun hHeld2 => ?_)
           clear hKx Kx hHeld
           have hHeld := hHeld2; clear hHeld2
           try simp only [sxLK]
           refine wpAnyH_ready (rs := [9]) (by kernel_rfl) (by simp) ?_
           refine AllReadyH.cons (o := ⟨some 92, .call { callee := .value (.func 80), args := #[.tmp 83, .tmp 84, .tmp 91], argTypes := #[22, 31, 22] }, 22, "parcel.go:109", #[⟨0, .data⟩, ⟨1, .data⟩, ⟨8, .data⟩, ⟨6, .chain⟩], none⟩) rfl (fun Kx hKx => ?_) AllReadyH.nil
           go_simp
           go_at_call 80
           have hba : Below w12.heap.size w12 (w12.alloc (.cells #[.int .i64 k, .int .i64 ow, .slice A11 FL.length c11, .slice A12 FR.length c12] 40)) := (Below.refl _ _).alloc (Nat.le_refl _) _
           have HB12 := Lib.hid (HB10.out.trans (HD12.out.mono HB10.out.size))
           have HBa := Lib.hid (HB12.out.trans (hba.mono HB12.out.size))
           have HC1a : Hid (Below w1.heap.size w1 (w12.alloc (.cells #[.int .i64 k, .int .i64 ow, .slice A11 FL.length c11, .slice A12 FR.length c12] 40))) := Lib.hid (HWR1.out.trans ((HC10.out.trans ((HD12.out.trans (hba.mono HD12.out.size)).mono HC10.out.size)).mono HWR1.out.size))
           have HC9a : Hid (Below w9.heap.size w9 (w12.alloc (.cells #[.int .i64 k, .int .i64 ow, .slice A11 FL.length c11, .slice A12 FR.length c12] 40))) := Lib.hid (HD10.out.trans ((HD12.out.trans (hba.mono HD12.out.size)).mono HD10.out.size))
           refine (HCH.out trivial trivial G _ c1 ⟨k, ow, FL, FR⟩ HGA.out rfl _ _ ⟨A11, c11, A12, c12⟩ HBa.out (HN1.out _ HC1a.out) (LtAt.new w12 ⟨k, ow, FL, FR⟩ ⟨A11, c11, A12, c12⟩ _ rfl rfl rfl) ⟨HR11.out _ HC9a.out, HN12.out.below hba, HN11.out, fun h => absurd h HE12.out⟩).mono ?_
           rintro e w13 ⟨A13, c13, rfl, h13, hb13, hbc⟩
           have HF : Hid (OpR (chL G [⟨k, ow, FL, FR⟩] L, 0) w (.returned (.tuple #[.slice A13 (chL G [⟨k, ow, FL, FR⟩] L).length c13, .int .i64 0])) w13) := Lib.hid ⟨A13, c13, rfl, h13, hb13⟩
           try go_wp2_with fail
           refine hKx.out _ _ (Pj13.go ‹_› hbc) (fun hHeld2 => ?_)
           clear hKx Kx hHeld h13 hb13 hbc hba
           have hHeld := hHeld2; clear hHeld2
           try simp only [sxLK]
           refine tkLK (i := 10) (oi := ⟨some 6, .assign (.tmp 92), 22, "parcel.go:109", #[⟨9, .data⟩, ⟨9, .chain⟩, ⟨0, .phase⟩, ⟨1, .phase⟩, ⟨2, .phase⟩, ⟨3, .phase⟩, ⟨4, .phase⟩, ⟨5, .phase⟩, ⟨6, .phase⟩, ⟨7, .phase⟩, ⟨8, .phase⟩, ⟨9, .phase⟩], none⟩) rfl ?_
           try simp only [sxLK]
           refine tkLK (i := 11) (oi := ⟨some 7, .assign (.const (.int .i64 0)), 27, "parcel.go:109", #[⟨10, .chain⟩, ⟨0, .phase⟩, ⟨1, .phase⟩, ⟨2, .phase⟩, ⟨3, .phase⟩, ⟨4, .phase⟩, ⟨5, .phase⟩, ⟨6, .phase⟩, ⟨7, .phase⟩, ⟨8, .phase⟩, ⟨9, .phase⟩, ⟨10, .phase⟩], none⟩) rfl ?_
           try simp only [sxLK]
           refine wpAnyH_done (by kernel_rfl) ?_ _
           clear hHeld
           go_wp2_with fail
           go_ret2
           rw [HV.out]; exact HF.out
         ·simp only [i1, i2]
          have I3 := Lib.hid i3
          clear ho9 i1 i2 i3 hn11
          have HV : Hid (X = ([], 6)) := Lib.hid (by rw [HX.out]; simp [I3.out])
          clear HX
          go_wp2_with fail
          go_ret2
          rw [HV.out]; exact OpR.err 6 HB9.out
end Go.Proofs.YtngddecpfhlilaaGreat
