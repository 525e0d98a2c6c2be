/-
  Bits of int at .i64: and, or, and not of numbers below 2^63; 1 << i; x >> i. No program in it.
  Contracts of the program's layer 6 (5): what column works on: the counts of the lists, and the rectangles so far.
  Contracts of the program's layer 6 (7): join.
  Rectangles apart (layer 13): plain mathematics: a sweep over the sides from left to right finds two rectangles with a cell in common. No program in this text.
  Mathematics of polygons (1): round a closed list of corners whose sides are horizontal or vertical, the number of the vertical sides left of a cell that pass its row, and that of the horizontal sides below it that pass its column, are both even or both odd; and in a slab without a corner inside, the sides over it.
  Mathematics of polygons (2): the rectangles of the slabs between successive X of corners have the cells of which an odd number of vertical sides on the left pass the row.
  Mathematics of polygons (3): the slabs of a polygon are a form: none is empty, successive ones differ; and a polygon with few corners has few rectangles.
  Contracts of the program's layer 8 (1): lists of spans in memory.
-/
import Derived.ProofKit
import Derived.Laws.BitsAllLaws
import Derived.IntWalk
import Derived.Test.YtngddecpfhlilaaGreatC05
import Derived.Test.YtngddecpfhlilaaGreatC06
import Derived.Laws.AppendOwnNone
import Derived.Test.YtngddecpfhlilaaGreatC00
set_option linter.unusedVariables false
set_option maxRecDepth 100000
set_option linter.unusedSimpArgs false
namespace Go.Proofs.YtngddecpfhlilaaGreat
open Go
end Go.Proofs.YtngddecpfhlilaaGreat
namespace Go.Proofs.YtngddecpfhlilaaGreat
open Go.RowKit
def EdRow (w : World) (B : Nat) (A : Option Addr) (E : List Ed) : Prop := 0 < E.length → ∃ b off, A = some ⟨b, off, none⟩ ∧ b < B ∧ b < w.heap.size ∧
 ∀ j (h : j < E.length), w.cell? ⟨b, off + j * 5, none⟩ = some (.int .i64 E[j].x0) ∧ w.cell? ⟨b, off + j * 5 + 1, none⟩ = some (.int .i64 E[j].x1) ∧ w.cell? ⟨b, off + j * 5 + 2, none⟩ = some (.int .i64 E[j].y) ∧ w.cell? ⟨b, off + j * 5 + 3, none⟩ = some (.int .i64 (E[j].l : Int)) ∧ w.cell? ⟨b, off + j * 5 + 4, none⟩ = some (.int .i64 E[j].s)
theorem EdRow.below {w w' : World} {B B' : Nat} {A : Option Addr} {E : List Ed} (h : EdRow w B A E) (hb : Below B' w w') (hB : B ≤ B') : EdRow w' B A E := fun h0 => by
 obtain ⟨b, off, rfl, hB2, hl, hc⟩ := h h0
 have e := fun o => hb.cell (p := ⟨b, o, none⟩) (show b < B' by omega)
 refine ⟨b, off, rfl, hB2, Nat.lt_of_lt_of_le hl hb.size, fun j hj => ?_⟩
 obtain ⟨h0, h1, h2, h3, h4⟩ := hc j hj
 exact ⟨(e _).trans h0, (e _).trans h1, (e _).trans h2, (e _).trans h3, (e _).trans h4⟩
structure CW (nb m cn : Nat) (c : List Int) (v : Value) (l : List Rc) (w wr : World) : Prop where
 n : wr.ownsRow nb 3 1 (.slice (some ⟨nb, 0, none⟩) m cn) m (icells c)
 own : wr.ownsRow w.heap.size 68 4 v l.length (rcells l)
 bel : Below nb w wr
 lt : nb < w.heap.size
section
variable {nb m cn : Nat} {c : List Int} {v : Value} {l : List Rc} {w wr w' : World}
theorem CW.go (h : CW nb m cn c v l w wr) (hb : Below wr.heap.size wr w') : CW nb m cn c v l w w' :=
 ⟨own_go h.n hb, own_go h.own hb, h.bel.trans (hb.mono (Nat.le_of_lt (Nat.lt_of_lt_of_le h.lt h.bel.size))), h.lt⟩
theorem CW.len (h : CW nb m cn c v l w wr) : c.length = m := by have := h.n.1; simpa [icells] using this
theorem CW.cell (h : CW nb m cn c v l w wr) (j : Nat) (hj : j < c.length) : wr.cell? ⟨nb, j, none⟩ = some (.int .i64 c[j]) := by
 have := h.len
 rw [h.n.cellAt j (by omega)]; simp [icells, hj]
theorem CW.irow (h : CW nb m cn c v l w wr) : IRow wr (some ⟨nb, 0, none⟩) c := fun _ =>
 ⟨nb, 0, rfl, (h.n.lt nb rfl).2, fun j hj => by rw [Nat.zero_add]; exact h.cell j hj⟩
theorem CW.setn (h : CW nb m cn c v l w wr) (j : Nat) (x : Int) : CW nb m cn (c.set j x) v l w (wr.setCell ⟨nb, j, none⟩ (.int .i64 x)) := by
 obtain ⟨h1, h2⟩ := h.n.stored j (.int .i64 x)
 refine ⟨?_, own_stays h.own (fun g hg => set_other _ _ _ _ ?_), h.bel.setCell (Nat.le_refl _) _, h.lt⟩
 ·rw [show icells (c.set j x) = (icells c).set j (.int .i64 x) by simp [icells, List.map_set]]; exact h1
 ·have := (h.own.lt g hg).1; have := h.lt; simp only; omega
theorem CW.grown (h : CW nb m cn c v l w wr) {v' : Value} {l' : List Rc} (ho : w'.ownsRow w.heap.size 68 4 v' l'.length (rcells l')) (hg : wr.grownBy w' v.ownBlock) : CW nb m cn c v' l' w w' := by
 refine ⟨own_stays h.n (fun g hg2 => ?_), ho, Below.grown h.bel hg (Nat.le_of_lt (Nat.lt_of_lt_of_le h.lt h.bel.size)) (fun k hk => ?_), h.lt⟩
 ·obtain rfl : nb = g := by simpa [Value.ownBlock] using hg2
  refine hg.block nb (h.n.lt nb rfl).2 (fun e => ?_)
  have := (h.own.lt nb e.symm).1; have := h.lt; omega
 ·have := (h.own.lt k hk).1; have := h.lt; omega
theorem CW.setr (h : CW nb m cn c v l w wr) {g cap : Nat} (hv : v = .slice (some ⟨g, 0, none⟩) l.length cap) {j : Nat} {x : Int} {l' : List Rc} (hl : l'.length = l.length) (he : (rcells l).set j (.int .i64 x) = rcells l') : CW nb m cn c v l' w (wr.setCell ⟨g, j, none⟩ (.int .i64 x)) := by
 subst hv
 have hg := (h.own.lt g rfl).1
 have hn := h.lt
 obtain ⟨h1, h2⟩ := h.own.stored j (.int .i64 x)
 refine ⟨own_stays h.n (fun g2 hg2 => set_other _ _ _ _ ?_), ?_, h.bel.setCell (show nb ≤ g by omega) _, h.lt⟩
 ·obtain rfl : nb = g2 := by simpa [Value.ownBlock] using hg2
  simp only; omega
 ·rw [he] at h1; rw [hl]; exact h1
end
theorem cnt_bound (a b : Int) (k : Nat) {E : List Ed} (h : ∀ e ∈ E, e.s = 1 ∨ e.s = -1) : -(E.length : Int) ≤ sumE (ctE a b k) E ∧ sumE (ctE a b k) E ≤ E.length := by
 induction E with
 | nil => exact ⟨by simp [sumE], by simp [sumE]⟩
 | cons e E ih =>
  have h1 := h e List.mem_cons_self
  obtain ⟨h2, h3⟩ := ih (fun g hg => h g (List.mem_cons_of_mem _ hg))
  show _ ≤ ctE a b k e + sumE (ctE a b k) E ∧ ctE a b k e + sumE (ctE a b k) E ≤ _
  have h4 : -1 ≤ ctE a b k e ∧ ctE a b k e ≤ 1 := by unfold ctE; split <;> omega
  simp only [List.length_cons]
  omega
theorem cnts_next (a b : Int) (m : Nat) (E : List Ed) (k : Nat) (h : k < E.length) : cntsE a b m (E.take (k + 1)) = if E[k].x0 ≤ a ∧ b ≤ E[k].x1 then (cntsE a b m (E.take k)).modify E[k].l (· + E[k].s) else cntsE a b m (E.take k) := by
 rw [List.take_succ_eq_append_getElem h, cntsE_snoc]
theorem modify_set (c : List Int) (j : Nat) (h : j < c.length) (s : Int) : c.modify j (· + s) = c.set j (c[j] + s) := by
 apply List.ext_getElem
 ·simp
 ·intro i h1 h2
  rw [List.getElem_modify, List.getElem_set]
  by_cases e : j = i
  ·subst e; simp
  ·simp [e]
end Go.Proofs.YtngddecpfhlilaaGreat
namespace Go.Proofs.YtngddecpfhlilaaGreat
open Go.RowKit
def JoinRes (B : Nat) (F : List Rc) (w : World) (e : Ending) (w' : World) : Prop := ∃ v, e = .returned v ∧ w'.ownsRow B 68 4 v F.length (rcells F) ∧ Below B w w' ∧ (F = [] → v = .slice none 0 0)
theorem own_zero {w : World} {B : Nat} {v : Value} (h : w.ownsRow B 68 4 v 0 (rcells [])) : v = .slice none 0 0 ∨ ∃ g cap, v = .slice (some ⟨g, 0, none⟩) 0 cap ∧ g < w.heap.size ∧ B ≤ g := by
 have hl := h.lt
 obtain ⟨_, h2⟩ := h
 rcases h2 with ⟨rfl, _⟩ | ⟨g, cap, cur, rfl, hB, hg, h4⟩
 ·exact Or.inl rfl
 ·exact Or.inr ⟨g, cap, rfl, (hl g rfl).2, hB⟩
theorem rects_map_len (x0 x1 y1 : Int) (t : List Int) : (rectsOf x0 x1 t).length = (rectsOf x0 y1 t).length := by simp [rectsOf]
def gK (P : List Rc) (x0 x1 b : Int) (c : List Int) (k : Nat) : List Rc := P ++ ((rectsOf x0 b c).take k ++ (rectsOf x0 x1 c).drop k)
theorem gK_len (P : List Rc) (x0 x1 b : Int) (c : List Int) (k : Nat) (h : k ≤ (rectsOf x0 x1 c).length) : (gK P x0 x1 b c k).length = P.length + (rectsOf x0 x1 c).length := by
 have := rects_map_len x0 x1 b c
 simp [gK]; omega
theorem gK_next (P : List Rc) (x0 x1 b : Int) (c : List Int) (k : Nat) (h : k < (rectsOf x0 x1 c).length) : ∃ h2 : P.length + k < (gK P x0 x1 b c k).length,
  (gK P x0 x1 b c k).set (P.length + k) ⟨(gK P x0 x1 b c k)[P.length + k].X0, (gK P x0 x1 b c k)[P.length + k].Y0, b, (gK P x0 x1 b c k)[P.length + k].Y1⟩ = gK P x0 x1 b c (k + 1) := by
 have hl := rects_map_len x0 x1 b c
 have h2 : P.length + k < (gK P x0 x1 b c k).length := by rw [gK_len _ _ _ _ _ _ (by omega)]; omega
 refine ⟨h2, ?_⟩
 have htk : ((rectsOf x0 b c).take k).length = k := by rw [List.length_take]; omega
 have e : (gK P x0 x1 b c k)[P.length + k] = (rectsOf x0 x1 c)[k] := by
  simp only [gK]
  rw [List.getElem_append_right (by omega)]
  simp only [Nat.add_sub_cancel_left]
  rw [List.getElem_append_right (by omega)]
  simp [htk]
 rw [e]
 have e2 : (⟨((rectsOf x0 x1 c)[k]).X0, ((rectsOf x0 x1 c)[k]).Y0, b, ((rectsOf x0 x1 c)[k]).Y1⟩ : Rc) = (rectsOf x0 b c)[k]'(by omega) := by
  simp only [← rects_wide' x0 x1 b c, List.getElem_map]
 rw [e2]
 simp only [gK]
 rw [List.set_append_right _ _ (by omega)]
 simp only [Nat.add_sub_cancel_left]
 congr 1
 rw [List.set_append_right _ _ (by omega), htk, Nat.sub_self, List.drop_eq_getElem_cons h, List.set_cons_zero, List.take_succ_eq_append_getElem (by omega), List.append_assoc]
 rfl
theorem glast_nil (w : World) : Calls Tryz.prog 165 #[.slice none 0 0] w fun e w' => e = .returned (.slice none 0 0) ∧ ∃ q, w' = w.drewN q := by
 go_enter Tryz.func165, Tryz.ntmps165
 go_wp2
 go_loopw [3] (fun i wr => i = .int .i64 0 ∧ ∃ q, wr = w.drewN q) (fun i _ => 0)
 case atStart => exact ⟨rfl, 0, rfl⟩
 case round =>
  obtain ⟨rfl, q, rfl⟩ := hrel
  go_wp2_with fail
  go_quiet (fail)
  go_wp2
  go_ret
  exact ⟨rfl, _, rfl⟩
set_option maxHeartbeats 40000000 in
theorem gjoin_any (T : List Slab) (a b : Int) (c : List Int) (vf vs : Value) (B B2 : Nat) (w : World) (hg : Grown T a) (hab : a < b) (hc : ColOk c)
  (hF : w.ownsRow B 68 4 vf (flatS T).length (rcells (flatS T))) (hR : w.ownsRow B2 68 4 vs (rectsOf a b c).length (rcells (rectsOf a b c)))
  (hnil : flatS T = [] → vf = .slice none 0 0) (hB : B ≤ w.heap.size) (hB2 : ∀ g, vf.ownBlock = some g → g < B2) (hFl : (flatS T).length ≤ 1000) (hRl : (rectsOf a b c).length ≤ 1048576) :
  Calls Tryz.prog 121 #[vf, vs] w (JoinRes B (flatS (stepF T a b c)) w) := by
 obtain ⟨i0, hi9, hz0, hz1, hz2⟩ := info_parts infoRect
 obtain ⟨AR, cR, rfl, hRR, hRc, hRc2, hRA, _⟩ := own_rects hR
 have HRR := Lib.hid hRR
 have HRO := Lib.hid hR
 clear hRR hR
 have APP : Hid (∀ v' w' w2, w2.ownsRow B 68 4 vf (flatS T).length (rcells (flatS T)) → Below B w w2 → w'.ownsRow B 68 4 v' ((flatS T).length + (rectsOf a b c).length) (rcells (flatS T) ++ rcells (rectsOf a b c)) → w2.grownBy w' vf.ownBlock → (v' = .slice none 0 0 ↔ vf = .slice none 0 0 ∧ (rectsOf a b c).length = 0) → flatS T ++ rectsOf a b c = flatS (stepF T a b c) → JoinRes B (flatS (stepF T a b c)) w (.returned v') w') := Lib.hid (fun v' w' w2 ho hb2 ho' hgr hn he => by
  refine ⟨v', rfl, ?_, Below.grown hb2 hgr (Nat.le_trans hB hb2.size) (fun k hk => (ho.lt k hk).1), fun h => ?_⟩
  ·rw [← he, List.length_append, rcells_append]; exact ho'
  ·rw [← he] at h
   have h1 := List.append_eq_nil_iff.1 h
   exact hn.2 ⟨hnil h1.1, by rw [h1.2]; rfl⟩)
 by_cases hT : T = []
 ·subst hT
  have hv0 : vf = .slice none 0 0 := hnil rfl
  subst hv0
  have EQ : Hid (flatS [] ++ rectsOf a b c = flatS (stepF [] a b c)) := Lib.hid (by
   unfold stepF
   by_cases h : c = []
   ·subst h; simp [flatS, rectsOf, twos]
   ·rw [if_neg h]; simp [flatS])
  have hown := hF
  have HOWN := Lib.hid hown
  clear hF hnil hB2 hown
  rcases Nat.eq_zero_or_pos (rectsOf a b c).length with hr0 | hr0
  ·have hrn : rectsOf a b c = [] := List.length_eq_zero_iff.1 hr0
   have hz := HRO.out
   rw [hrn] at hz
   have HRE : Hid (0 = (rectsOf a b c).length) := Lib.hid hr0.symm
   have HRN := Lib.hid hrn
   rw [hr0] at hRl hRc
   rw [hr0]
   have hz2 : w.ownsRow B2 68 4 (.slice AR 0 cR) 0 (rcells []) := by
    have := HRO.out
    rw [hr0, hrn] at this; exact this
   clear hrn hz HRR hr0
   rcases own_zero hz2 with h | ⟨gR, cap, h, hgR, _⟩
   ·obtain ⟨rfl, _, rfl⟩ : AR = none ∧ True ∧ cR = 0 := by
     injection h with h1 h2 h3; exact ⟨h1, trivial, h3⟩
    clear h hz2 HRO
    go_enter Tryz.func121, Tryz.ntmps121
    go_wp2_with fail
    refine (glast_nil w).mono ?_
    rintro e w1 ⟨rfl, q, rfl⟩
    have HB2 := Lib.hid (below_drewN (Below.refl w.heap.size w) q)
    go_wp2_with (at_builtin; refine wpList_append_own_none rfl _ _ 30 rfl B 68 i0 4 Tryz.underlying30 hi9 hz1 _ _ _ rfl (own_go HOWN.out HB2.out) rfl ?_)
    have FIN := Lib.hid (APP.out _ _ _ (own_go HOWN.out HB2.out) (HB2.out.mono hB) (by rw [HRN.out]; simp only [List.length_nil, Nat.add_zero, rcells, List.flatMap_nil, List.append_nil]; exact own_go HOWN.out HB2.out) (World.grownBy.refl _ _) (by rw [HRN.out]; simp) EQ.out)
    go_wp2_with fail
    go_ret
    exact FIN.out
   ·obtain ⟨rfl, _, rfl⟩ : AR = some ⟨gR, 0, none⟩ ∧ True ∧ cR = cap := by
     injection h with h1 h2 h3; exact ⟨h1, trivial, h3⟩
    clear h hz2 HRO
    have C0X : Hid (([] : List Value).length = 0 * 4) := Lib.hid rfl
    have C1X : Hid (∀ w2, Below w.heap.size w w2 → ∀ j u, ([] : List Value)[j]? = some u → w2.cell? ((⟨gR, 0, none⟩ : Addr).add j) = some u) := Lib.hid (fun w2 hb j u hj => by simp at hj)
    have C2X : Hid (∀ u ∈ ([] : List Value), u.oneCell' = true) := Lib.hid (fun u hu => by cases hu)
    have C3X : Hid ((flatS []).length + 0 ≤ maxLen) := Lib.hid (by unfold maxLen; omega)
    have C4X : Hid (((flatS []).length + 0) * 32 ≤ 140737488355328) := Lib.hid (by omega)
    go_enter Tryz.func121, Tryz.ntmps121
    go_wp2_with fail
    refine (glast_nil w).mono ?_
    rintro e w1 ⟨rfl, q, rfl⟩
    have HB2 := Lib.hid (below_drewN (Below.refl w.heap.size w) q)
    go_wp2_with (at_builtin; refine wpList_append_own _ rfl _ _ 30 rfl B 68 i0 (.agg #[.int .i64 0, .int .i64 0, .int .i64 0, .int .i64 0]) 4 32 Tryz.underlying30 hi9 hz0 hz1 hz2 rfl (by decide) _ _ _ rfl (own_go HOWN.out HB2.out) ⟨gR, 0, none⟩ 0 cR [] rfl ?c0 ?c1 ?c2 ?c3 ?c4 ?c5 ?_)
    case c0 => exact C0X.out
    case c1 => exact C1X.out _ HB2.out
    case c2 => exact C2X.out
    case c3 => exact C3X.out
    case c4 => exact C4X.out
    case c5 => have := HB2.out.size; omega
    intro v' w4 hown' hgr hnn
    have FIN := Lib.hid (APP.out v' w4 _ (own_go HOWN.out HB2.out) (HB2.out.mono hB) (by rw [HRN.out]; first | exact hown' | (rw [show rcells [] = [] from rfl, List.append_nil, List.length_nil, Nat.add_zero]; exact hown')) hgr (by rw [HRN.out]; first | exact hnn | simpa using hnn | (constructor; (intro h; exact absurd h hnn); (rintro ⟨h1, h2⟩; first | omega | (cases h1)))) EQ.out)
    clear hown' hgr hnn
    go_wp2_with fail
    go_ret
    exact FIN.out
  ·obtain ⟨gR, rfl, hg1, hg2⟩ := hRA hr0
   obtain ⟨r, hre⟩ : ∃ r, r = (rectsOf a b c).length := ⟨_, rfl⟩
   rw [← hre] at hr0 hRl hRc
   rw [← hre]
   have HRE := Lib.hid hre; clear hre
   have C0X : Hid ((rcells (rectsOf a b c)).length = r * 4) := Lib.hid (by rw [rcells_len, HRE.out])
   have C1X : Hid (∀ w2, Below w.heap.size w w2 → ∀ j u, (rcells (rectsOf a b c))[j]? = some u → w2.cell? ((⟨gR, 0, none⟩ : Addr).add j) = some u) := Lib.hid (fun w2 hb j u hj => World.ownsRow.cells (own_go HRO.out hb) rfl j u hj)
   have C2X : Hid (∀ u ∈ rcells (rectsOf a b c), u.oneCell' = true) := Lib.hid (rcells_one _)
   have C3X : Hid ((flatS []).length + r ≤ maxLen) := Lib.hid (by unfold maxLen; omega)
   have C4X : Hid (((flatS []).length + r) * 32 ≤ 140737488355328) := Lib.hid (by omega)
   clear HRR
   go_enter Tryz.func121, Tryz.ntmps121
   go_wp2_with fail
   refine (glast_nil w).mono ?_
   rintro e w1 ⟨rfl, q, rfl⟩
   have HB2 := Lib.hid (below_drewN (Below.refl w.heap.size w) q)
   go_wp2_with (at_builtin; refine wpList_append_own _ rfl _ _ 30 rfl B 68 i0 (.agg #[.int .i64 0, .int .i64 0, .int .i64 0, .int .i64 0]) 4 32 Tryz.underlying30 hi9 hz0 hz1 hz2 rfl (by decide) _ _ _ rfl (own_go HOWN.out HB2.out) ⟨gR, 0, none⟩ r cR (rcells (rectsOf a b c)) rfl ?c0 ?c1 ?c2 ?c3 ?c4 ?c5 ?_)
   case c0 => exact C0X.out
   case c1 => exact C1X.out _ HB2.out
   case c2 => exact C2X.out
   case c3 => exact C3X.out
   case c4 => exact C4X.out
   case c5 => have := HB2.out.size; omega
   intro v' w4 hown' hgr hnn
   have FIN := Lib.hid (APP.out v' w4 _ (own_go HOWN.out HB2.out) (HB2.out.mono hB) (by first | exact hown' | (rw [← HRE.out]; exact hown')) hgr (by rw [← HRE.out]; first | exact hnn | simpa using hnn | (constructor; (intro h; exact absurd h hnn); (rintro ⟨h1, h2⟩; first | omega | (cases h1)))) EQ.out)
   clear hown' hgr hnn
   go_wp2_with fail
   go_ret
   exact FIN.out
 ·obtain ⟨T1, s, rfl⟩ : ∃ T1 s, T = T1 ++ [s] := by
   rcases List.eq_nil_or_concat T with h | ⟨T1, s, h⟩
   ·exact absurd h hT
   ·exact ⟨T1, s, by rw [h, List.concat_eq_append]⟩
  obtain ⟨Af, cf, rfl, hfR, hfc, hfc2, hfA, _⟩ := own_rects hF
  have hs := hg.ok.each s (by simp)
  have hp := rects_ne (x0 := s.x0) (x1 := s.x1) hs.ev hs.ne
  have eF : flatS (T1 ++ [s]) = flatS T1 ++ rectsOf s.x0 s.x1 s.t := by rw [flat_append, flat_cons]; simp [flatS]
  have hFlen : (flatS (T1 ++ [s])).length = (flatS T1).length + (rectsOf s.x0 s.x1 s.t).length := by rw [eF, List.length_append]
  have f0 : 0 < (flatS (T1 ++ [s])).length := by omega
  obtain ⟨g, rfl, hgB, hgw⟩ := hfA f0
  have HL := Lib.hid (glast_any g 0 cf (flatS (T1 ++ [s])) w (fun j hj => ((hfR.some f0).2 j hj).1) f0 (by omega) hfc hfc2)
  have HLS : Hid (∀ n, LastAt (flatS (T1 ++ [s])) n → n < (flatS (T1 ++ [s])).length → n = (flatS T1).length) := Lib.hid (fun n h1 h2 => last_slab hg.ok h1 h2)
  have HFR := Lib.hid hfR
  have HOWN := Lib.hid hF
  have hgB2 := hB2 g rfl
  have STEPN : Hid (c ≠ [] → (s.x1 = a ∧ s.t = c) → flatS (stepF (T1 ++ [s]) a b c) = flatS T1 ++ rectsOf s.x0 b c) := Lib.hid (fun h1 h2 => by
   unfold stepF
   rw [if_neg h1, show (T1 ++ [s]).getLast? = some s by simp]
   simp only []
   rw [if_pos h2, List.dropLast_concat, flat_append, flat_cons]; simp [flatS])
  have STEPA : Hid (c = [] ∨ ¬ (s.x1 = a ∧ s.t = c) → flatS (T1 ++ [s]) ++ rectsOf a b c = flatS (stepF (T1 ++ [s]) a b c)) := Lib.hid (fun h => by
   unfold stepF
   by_cases h1 : c = []
   ·rw [if_pos h1, h1]; simp [rectsOf, twos]
   ·rw [if_neg h1, show (T1 ++ [s]).getLast? = some s by simp]
    simp only []
    rw [if_neg (h.resolve_left h1)]
    simp [flatS])
  have HS := Lib.hid hs; have HP := Lib.hid hp; have HC := Lib.hid hc
  clear hF hfR hfA hnil hs hg hT
  have hl1 : (flatS (T1 ++ [s])).length - (flatS T1).length = (rectsOf s.x0 s.x1 s.t).length := by omega
  have HRL : Hid (RRow w (some ⟨g, (flatS T1).length * 4, none⟩) (rectsOf s.x0 s.x1 s.t)) := Lib.hid (by
   have := RRow.drop HFR.out (flatS T1).length
   rw [eF, List.drop_left, Nat.zero_add] at this; exact this)
  have HEF := Lib.hid eF; clear eF
  rcases Nat.eq_zero_or_pos (rectsOf a b c).length with hr0 | hr0
  ·have C0 : Hid (c = []) := Lib.hid (by
    rcases c with _ | ⟨c0, t⟩
    ·rfl
    ·exfalso
     have := rects_ne (x0 := a) (x1 := b) HC.out.ev (by simp : (c0 :: t) ≠ [])
     omega)
   have EQ := Lib.hid (STEPA.out (Or.inl C0.out))
   clear STEPN STEPA HRL
   have hpl : 0 < (rectsOf s.x0 s.x1 s.t).length := HP.out
   obtain ⟨p, hpe⟩ : ∃ p, p = (rectsOf s.x0 s.x1 s.t).length := ⟨_, rfl⟩
   rw [← hpe] at hl1 hpl
   clear hpe
   have p0 : ¬ p = 0 := by omega
   have p0n : (((p : Nat) : Int) == 0) = false := by rw [beq_eq_false_iff_ne]; omega
   have p0m : (p == 0) = false := by rw [beq_eq_false_iff_ne]; omega
   have HL1 := Lib.hid hl1; clear hl1
   have HLen := Lib.hid hFlen; clear hFlen
   have hrn : rectsOf a b c = [] := List.length_eq_zero_iff.1 hr0
   have hz := HRO.out
   rw [hrn] at hz
   have HRE : Hid (0 = (rectsOf a b c).length) := Lib.hid hr0.symm
   have HRN := Lib.hid hrn
   rw [hr0] at hRl hRc
   rw [hr0]
   have hz2 : w.ownsRow B2 68 4 (.slice AR 0 cR) 0 (rcells []) := by
    have := HRO.out
    rw [hr0, hrn] at this; exact this
   clear hrn hz HRR hr0
   rcases own_zero hz2 with h | ⟨gR, cap, h, hgR, _⟩
   ·obtain ⟨rfl, _, rfl⟩ : AR = none ∧ True ∧ cR = 0 := by
     injection h with h1 h2 h3; exact ⟨h1, trivial, h3⟩
    clear h hz2 HRO
    go_enter Tryz.func121, Tryz.ntmps121
    go_wp2_with fail
    refine HL.out.mono ?_
    rintro e w1 ⟨n, q, hL, hn, rfl, rfl⟩
    obtain rfl := HLS.out n hL hn
    rw [HL1.out]
    clear hL hn HL
    have HB2 := Lib.hid (below_drewN (Below.refl w.heap.size w) q)
    go_wp2_with (at_builtin; refine wpList_append_own_none rfl _ _ 30 rfl B 68 i0 4 Tryz.underlying30 hi9 hz1 _ _ _ rfl (own_go HOWN.out HB2.out) rfl ?_)
    have FIN := Lib.hid (APP.out _ _ _ (own_go HOWN.out HB2.out) (HB2.out.mono hB) (by rw [HRN.out]; simp only [List.length_nil, Nat.add_zero, rcells, List.flatMap_nil, List.append_nil]; exact own_go HOWN.out HB2.out) (World.grownBy.refl _ _) (by rw [HRN.out]; simp) EQ.out)
    go_wp2_with fail
    go_ret
    exact FIN.out
   ·obtain ⟨rfl, _, rfl⟩ : AR = some ⟨gR, 0, none⟩ ∧ True ∧ cR = cap := by
     injection h with h1 h2 h3; exact ⟨h1, trivial, h3⟩
    clear h hz2 HRO
    have C0X : Hid (([] : List Value).length = 0 * 4) := Lib.hid rfl
    have C1X : Hid (∀ w2, Below w.heap.size w w2 → ∀ j u, ([] : List Value)[j]? = some u → w2.cell? ((⟨gR, 0, none⟩ : Addr).add j) = some u) := Lib.hid (fun w2 hb j u hj => by simp at hj)
    have C2X : Hid (∀ u ∈ ([] : List Value), u.oneCell' = true) := Lib.hid (fun u hu => by cases hu)
    have C3X : Hid ((flatS (T1 ++ [s])).length + 0 ≤ maxLen) := Lib.hid (by unfold maxLen; omega)
    have C4X : Hid (((flatS (T1 ++ [s])).length + 0) * 32 ≤ 140737488355328) := Lib.hid (by omega)
    go_enter Tryz.func121, Tryz.ntmps121
    go_wp2_with fail
    refine HL.out.mono ?_
    rintro e w1 ⟨n, q, hL, hn, rfl, rfl⟩
    obtain rfl := HLS.out n hL hn
    rw [HL1.out]
    clear hL hn HL
    have HB2 := Lib.hid (below_drewN (Below.refl w.heap.size w) q)
    go_wp2_with (at_builtin; refine wpList_append_own _ rfl _ _ 30 rfl B 68 i0 (.agg #[.int .i64 0, .int .i64 0, .int .i64 0, .int .i64 0]) 4 32 Tryz.underlying30 hi9 hz0 hz1 hz2 rfl (by decide) _ _ _ rfl (own_go HOWN.out HB2.out) ⟨gR, 0, none⟩ 0 cR [] rfl ?c0 ?c1 ?c2 ?c3 ?c4 ?c5 ?_)
    case c0 => exact C0X.out
    case c1 => exact C1X.out _ HB2.out
    case c2 => exact C2X.out
    case c3 => exact C3X.out
    case c4 => exact C4X.out
    case c5 => have := HB2.out.size; omega
    intro v' w4 hown' hgr hnn
    have FIN := Lib.hid (APP.out v' w4 _ (own_go HOWN.out HB2.out) (HB2.out.mono hB) (by rw [HRN.out]; first | exact hown' | (rw [show rcells [] = [] from rfl, List.append_nil, List.length_nil, Nat.add_zero]; exact hown')) hgr (by rw [HRN.out]; first | exact hnn | simpa using hnn | (constructor; (intro h; exact absurd h hnn); (rintro ⟨h1, h2⟩; first | omega | (cases h1)))) EQ.out)
    clear hown' hgr hnn
    go_wp2_with fail
    go_ret
    exact FIN.out
  ·obtain ⟨gR, rfl, hg1, hg2⟩ := hRA hr0
   have hcne : Hid (c ≠ []) := Lib.hid (fun h => by rw [h] at hr0; simp [rectsOf, twos] at hr0)
   have r0 : ¬ (((rectsOf a b c).length : Nat) : Int) = 0 := by omega
   have r0' : ¬ (rectsOf a b c).length = 0 := by omega
   have r0n : ((((rectsOf a b c).length : Nat) : Int) == 0) = false := by rw [beq_eq_false_iff_ne]; omega
   have e1 : ((rectsOf s.x0 s.x1 s.t)[0]'(HP.out)).X1 = s.x1 := (rects_x (List.getElem_mem HP.out)).2
   have e2 : ((rectsOf a b c)[0]'hr0).X0 = a := (rects_x (List.getElem_mem hr0)).1
   have CB : contB (rectsOf s.x0 s.x1 s.t) (rectsOf a b c) s.x1 a = decide (s.x1 = a ∧ s.t = c) := by
    unfold contB
    rw [Bool.eq_iff_iff]
    simp only [Bool.and_eq_true, decide_eq_true_eq]
    rw [yys_rects HS.out.ev HC.out.ev]
   have hpl : 0 < (rectsOf s.x0 s.x1 s.t).length := HP.out
   have HCC : Hid (∀ w', Below w.heap.size w w' → Calls Tryz.prog 125 #[.slice (some ⟨g, (flatS T1).length * 4, none⟩) (rectsOf s.x0 s.x1 s.t).length (cf - (flatS T1).length), .slice (some ⟨gR, 0, none⟩) (rectsOf a b c).length cR] w' (BlIs (decide (s.x1 = a ∧ s.t = c)) w')) := Lib.hid (fun w' hb => by
    have h := gcont_any (some ⟨g, (flatS T1).length * 4, none⟩) (cf - (flatS T1).length) (some ⟨gR, 0, none⟩) cR (rectsOf s.x0 s.x1 s.t) (rectsOf a b c) w' (HRL.out.below hb) (HRR.out.below hb) (by omega) (by omega) hpl hr0
    rw [e1, e2, CB] at h
    exact h)
   clear CB e1 e2
   have hpn : ((((rectsOf s.x0 s.x1 s.t).length : Nat) : Int) == 0) = false := by rw [beq_eq_false_iff_ne]; omega
   have HLen := Lib.hid hFlen; clear hFlen
   obtain ⟨p, hpe⟩ : ∃ p, p = (rectsOf s.x0 s.x1 s.t).length := ⟨_, rfl⟩
   obtain ⟨r, hre⟩ : ∃ r, r = (rectsOf a b c).length := ⟨_, rfl⟩
   rw [← hpe, ← hre] at HCC
   rw [← hpe] at hl1 hpl
   rw [← hre] at hr0 hRl hRc
   rw [← hre]
   clear r0 r0' r0n hpn
   have r0 : ¬ r = 0 := by omega
   have r0n : (((r : Nat) : Int) == 0) = false := by rw [beq_eq_false_iff_ne]; omega
   have r0m : (r == 0) = false := by rw [beq_eq_false_iff_ne]; omega
   have p0 : ¬ p = 0 := by omega
   have p0n : (((p : Nat) : Int) == 0) = false := by rw [beq_eq_false_iff_ne]; omega
   have p0m : (p == 0) = false := by rw [beq_eq_false_iff_ne]; omega
   have HPE := Lib.hid hpe; have HRE := Lib.hid hre
   clear hpe hre
   by_cases hcont : s.x1 = a ∧ s.t = c
   ·have EQ := Lib.hid (STEPN.out hcne.out hcont)
    rw [decide_eq_true hcont] at HCC
    obtain ⟨hx1, hct⟩ := hcont
    subst hct
    clear STEPN STEPA APP
    go_enter Tryz.func121, Tryz.ntmps121
    go_wp2_with fail
    refine HL.out.mono ?_
    rintro e w1 ⟨n, q, hL, hn, rfl, rfl⟩
    obtain rfl := HLS.out n hL hn
    rw [hl1]
    clear hL hn HL
    go_wp2_with fail
    refine (HCC.out _ (below_drewN (Below.refl _ _) q)).mono ?_
    rintro e w2 ⟨rfl, hb2⟩
    have HB2 := Lib.hid ((below_drewN (Below.refl w.heap.size w) q).trans hb2)
    clear hb2 HCC HRL
    have K0 : Hid (w2.ownsRow B 68 4 (.slice (some ⟨g, 0, none⟩) (flatS (T1 ++ [s])).length cf) (flatS (T1 ++ [s])).length (rcells (gK (flatS T1) s.x0 s.x1 b s.t 0)) ∧ Below B w w2) := Lib.hid ⟨by
     have := own_go HOWN.out HB2.out
     have e : gK (flatS T1) s.x0 s.x1 b s.t 0 = flatS (T1 ++ [s]) := by rw [HEF.out]; simp [gK]
     rw [e]; exact this, HB2.out.mono hB⟩
    have HR2 := Lib.hid (RRow.some (HRR.out.below HB2.out) (by rw [← HRE.out]; exact hr0))
    have hgR2 : gR < w2.heap.size := Nat.lt_of_lt_of_le hg2 HB2.out.size
    clear HRR HRO HFR HOWN HB2 HEF
    go_wp2_with fail
    go_loopw [28] (fun i wr => ∃ k : Nat, k ≤ p ∧ i = .int .i64 k ∧ Hid (wr.ownsRow B 68 4 (.slice (some ⟨g, 0, none⟩) (flatS (T1 ++ [s])).length cf) (flatS (T1 ++ [s])).length (rcells (gK (flatS T1) s.x0 s.x1 b s.t k)) ∧ Below B w wr) ∧ Hid (∀ j : Nat, wr.cell? ⟨gR, j, none⟩ = w2.cell? ⟨gR, j, none⟩)) (fun i _ => p - (intOf i).toNat)
    case atStart => exact ⟨0, Nat.zero_le _, rfl, K0, Lib.hid (fun _ => rfl)⟩
    case round =>
     clear K0
     obtain ⟨k, hk, rfl, HK, HSAME⟩ := hrel
     have hkp : k ≤ (rectsOf s.x0 s.x1 s.t).length := by rw [← HPE.out]; exact hk
     have hpR : p = (rectsOf a b s.t).length := by rw [HPE.out]; simp [rectsOf]
     have hrR : r = (rectsOf a b s.t).length := HRE.out
     by_cases hltp : k < p
     ·have hlt : k < (rectsOf s.x0 s.x1 s.t).length := by rw [← HPE.out]; exact hltp
      have hkR : k < (rectsOf a b s.t).length := by omega
      have x2 := (HR2.out.2 k hkR).2.2.1
      rw [Nat.zero_add] at x2
      have x2 := (HSAME.out _).trans x2
      rw [(rects_x (List.getElem_mem hkR)).2] at x2
      obtain ⟨hn1, hn2⟩ := gK_next (flatS T1) s.x0 s.x1 b s.t k hlt
      have hset := (rcells_set (gK (flatS T1) s.x0 s.x1 b s.t k) ((flatS T1).length + k) hn1 b).1
      rw [hn2] at hset
      have hln := gK_len (flatS T1) s.x0 s.x1 b s.t k (by omega)
      have own := HK.out.1
      have hcl := own.cellAt (((flatS T1).length + k) * 4 + 2) (by have := HLen.out; omega)
      have hfz := own.frozenAt (((flatS T1).length + k) * 4 + 2)
      have hat := (rcells_at (gK (flatS T1) s.x0 s.x1 b s.t k) ((flatS T1).length + k) hn1).2.2.1
      have y2 := hcl.trans hat
      have eo : ((flatS T1).length + k) * 4 + 2 = 0 + (flatS T1).length * 4 + k * 4 + 2 := by omega
      have eo' : ((flatS T1).length + k) * 4 + 2 = (flatS T1).length * 4 + k * 4 + 2 := by omega
      generalize (gK (flatS T1) s.x0 s.x1 b s.t k)[(flatS T1).length + k].X1 = y9 at *
      obtain ⟨h8, h9⟩ := own.stored (((flatS T1).length + k) * 4 + 2) (.int .i64 b)
      have NEW : Hid ((wr.setCell ⟨g, (flatS T1).length * 4 + k * 4 + 2, none⟩ (.int .i64 b)).ownsRow B 68 4 (.slice (some ⟨g, 0, none⟩) (flatS (T1 ++ [s])).length cf) (flatS (T1 ++ [s])).length (rcells (gK (flatS T1) s.x0 s.x1 b s.t (k + 1))) ∧ Below B w (wr.setCell ⟨g, (flatS T1).length * 4 + k * 4 + 2, none⟩ (.int .i64 b))) := Lib.hid (by
       rw [← hset, ← eo']
       exact ⟨h8, HK.out.2.setCell hgB _⟩)
      have SAME : Hid (∀ j : Nat, (wr.setCell ⟨g, (flatS T1).length * 4 + k * 4 + 2, none⟩ (.int .i64 b)).cell? ⟨gR, j, none⟩ = w2.cell? ⟨gR, j, none⟩) := Lib.hid (fun j => by
       rw [← HSAME.out j]
       simp only [World.cell?]
       rw [set_other _ _ _ _ (by simp only; omega)])
      rw [eo'] at y2 hfz
      clear hset hat hcl own h8 h9 hn1 hn2 hln eo eo' HK HSAME
      have j0 : (0 : Int) ≤ (k : Int) := by omega
      have j1 : (k : Int) < (p : Int) := by omega
      have j2 : (k : Int) < (r : Int) := by omega
      clear hkp hpR hrR
      go_wp2_with fail
      go_roundw
      case rel => exact ⟨k + 1, by omega, by go_num, NEW, SAME⟩
      case measure => simp [intOf]; omega
     ·have hkk : k = (rectsOf s.x0 s.x1 s.t).length := by have := HPE.out; omega
      have hkk2 : k = p := by omega
      have FIN : Hid (JoinRes B (flatS (stepF (T1 ++ [s]) a b s.t)) w (.returned (.slice (some ⟨g, 0, none⟩) (flatS (T1 ++ [s])).length cf)) wr) := Lib.hid (by
       have e : gK (flatS T1) s.x0 s.x1 b s.t (rectsOf s.x0 s.x1 s.t).length = flatS T1 ++ rectsOf s.x0 b s.t := by
        unfold gK
        rw [List.drop_length, List.append_nil, rects_map_len s.x0 s.x1 b s.t, List.take_length]
       have h1 := HK.out.1
       rw [hkk, e] at h1
       have hl : (flatS T1 ++ rectsOf s.x0 b s.t).length = (flatS (T1 ++ [s])).length := by rw [List.length_append, HLen.out, rects_map_len s.x0 s.x1 b s.t]
       exact ⟨_, rfl, by rw [EQ.out, hl]; exact h1, HK.out.2, fun h => by
        rw [EQ.out] at h
        have := congrArg List.length h
        rw [hl, List.length_nil] at this; omega⟩)
      clear HK hkk hkp hpR hrR
      subst hkk2
      go_wp2_with fail
      go_ret
      exact FIN.out
   ·have EQ := Lib.hid (STEPA.out (Or.inr hcont))
    rw [decide_eq_false hcont] at HCC
    clear STEPN STEPA hcont
    have C0X : Hid ((rcells (rectsOf a b c)).length = r * 4) := Lib.hid (by rw [rcells_len, HRE.out])
    have C1X : Hid (∀ w2, Below w.heap.size w w2 → ∀ j u, (rcells (rectsOf a b c))[j]? = some u → w2.cell? ((⟨gR, 0, none⟩ : Addr).add j) = some u) := Lib.hid (fun w2 hb j u hj => World.ownsRow.cells (own_go HRO.out hb) rfl j u hj)
    have C2X : Hid (∀ u ∈ rcells (rectsOf a b c), u.oneCell' = true) := Lib.hid (rcells_one _)
    have C3X : Hid ((flatS (T1 ++ [s])).length + r ≤ maxLen) := Lib.hid (by unfold maxLen; omega)
    have C4X : Hid (((flatS (T1 ++ [s])).length + r) * 32 ≤ 140737488355328) := Lib.hid (by omega)
    have HL1 := Lib.hid hl1; clear hl1
    go_enter Tryz.func121, Tryz.ntmps121
    go_wp2_with fail
    refine HL.out.mono ?_
    rintro e w1 ⟨n, q, hL, hn, rfl, rfl⟩
    obtain rfl := HLS.out n hL hn
    rw [HL1.out]
    clear hL hn HL
    go_wp2_with fail
    refine (HCC.out _ (below_drewN (Below.refl _ _) q)).mono ?_
    rintro e w2 ⟨rfl, hb2⟩
    have HB2 := Lib.hid ((below_drewN (Below.refl w.heap.size w) q).trans hb2)
    clear hb2 HCC HRL
    go_wp2_with (at_builtin; refine wpList_append_own _ rfl _ _ 30 rfl B 68 i0 (.agg #[.int .i64 0, .int .i64 0, .int .i64 0, .int .i64 0]) 4 32 Tryz.underlying30 hi9 hz0 hz1 hz2 rfl (by decide) _ _ _ rfl (own_go HOWN.out HB2.out) ⟨gR, 0, none⟩ r cR (rcells (rectsOf a b c)) rfl ?c0 ?c1 ?c2 ?c3 ?c4 ?c5 ?_)
    case c0 => exact C0X.out
    case c1 => exact C1X.out _ HB2.out
    case c2 => exact C2X.out
    case c3 => exact C3X.out
    case c4 => exact C4X.out
    case c5 => have := HB2.out.size; omega
    intro v' w4 hown' hgr hnn
    have FIN := Lib.hid (APP.out v' w4 w2 (own_go HOWN.out HB2.out) (HB2.out.mono hB) (by first | exact hown' | (rw [← HRE.out]; exact hown')) hgr (by rw [← HRE.out]; first | exact hnn | simpa using hnn | (constructor; (intro h; exact absurd h hnn); (rintro ⟨h1, h2⟩; first | omega | (cases h1)))) EQ.out)
    clear hown' hgr hnn
    go_wp2_with fail
    go_ret
    exact FIN.out
end Go.Proofs.YtngddecpfhlilaaGreat
namespace Go.Proofs.YtngddecpfhlilaaGreat
structure Sd where
 x : Int
 y0 : Int
 y1 : Int
 st : Int
def sidesOf (l : List Rc) : List Sd := l.flatMap fun r => [⟨r.X0, r.Y0, r.Y1, 1⟩, ⟨r.X1, r.Y0, r.Y1, -1⟩]
theorem sidesOf_append (l m : List Rc) : sidesOf (l ++ m) = sidesOf l ++ sidesOf m := by simp [sidesOf]
theorem sidesOf_len (l : List Rc) : (sidesOf l).length = l.length * 2 := by
 induction l with
 | nil => rfl
 | cons r l ih => rw [show sidesOf (r :: l) = ⟨r.X0, r.Y0, r.Y1, 1⟩ :: ⟨r.X1, r.Y0, r.Y1, -1⟩ :: sidesOf l from rfl]; simp only [List.length_cons, ih]; omega
def sumW (p : Sd → Bool) : List Sd → Int
 | [] => 0
 | s :: S => (if p s = true then s.st else 0) + sumW p S
theorem sumW_append (p : Sd → Bool) : ∀ S T, sumW p (S ++ T) = sumW p S + sumW p T
 | [], T => by simp [sumW]
 | s :: S, T => by rw [List.cons_append, sumW, sumW, sumW_append p S T]; omega
theorem sumW_perm (p : Sd → Bool) {S T : List Sd} (h : S.Perm T) : sumW p S = sumW p T := by
 induction h with
 | nil => rfl
 | cons a _ ih => rw [sumW, sumW, ih]
 | swap a b l => simp only [sumW]; omega
 | trans _ _ h1 h2 => rw [h1, h2]
theorem sumW_congr {p q : Sd → Bool} : ∀ {S : List Sd}, (∀ s ∈ S, p s = q s) → sumW p S = sumW q S
 | [], _ => rfl
 | s :: S, h => by rw [sumW, sumW, h s (by simp), sumW_congr (fun u hu => h u (by simp [hu]))]
theorem sumW_zero {p : Sd → Bool} : ∀ {S : List Sd}, (∀ s ∈ S, p s = false) → sumW p S = 0
 | [], _ => rfl
 | s :: S, h => by rw [sumW, h s (by simp), sumW_zero (fun u hu => h u (by simp [hu]))]; simp
theorem sumW_split (p q : Sd → Bool) : ∀ S, sumW p S = sumW (fun s => p s && q s) S + sumW (fun s => p s && !q s) S
 | [] => rfl
 | s :: S => by
  rw [sumW, sumW, sumW, sumW_split p q S]
  cases p s <;> cases q s <;> simp <;> omega
theorem sumW_nn {p : Sd → Bool} : ∀ {S : List Sd}, (∀ s ∈ S, p s = true → s.st = 1) → 0 ≤ sumW p S ∧ (sumW p S = 0 ↔ ∀ s ∈ S, p s = false)
 | [], _ => by simp [sumW]
 | s :: S, h => by
  have ih := sumW_nn (S := S) (fun u hu => h u (by simp [hu]))
  rw [sumW]
  cases hp : p s with
  | true =>
   have := h s (by simp) hp
   simp only [if_true, this]
   refine ⟨by omega, ⟨fun e => by omega, fun hh => ?_⟩⟩
   have := hh s (by simp)
   rw [hp] at this; cases this
  | false =>
   simp only [Bool.false_eq_true, if_false, Int.zero_add]
   refine ⟨ih.1, ih.2.trans ⟨fun hh u hu => ?_, fun hh u hu => hh u (by simp [hu])⟩⟩
   rcases List.mem_cons.1 hu with e | hu
   ·rw [e]; exact hp
   ·exact hh u hu
def leS (a b : Sd) : Prop := a.x < b.x ∨ (a.x = b.x ∧ a.st ≤ b.st)
def ovS (t s : Sd) : Bool := decide (s.y0 < t.y1) && decide (t.y0 < s.y1)
def Apt (r q : Rc) : Prop := ¬ (r.X0 < q.X1 ∧ q.X0 < r.X1 ∧ r.Y0 < q.Y1 ∧ q.Y0 < r.Y1)
def inX (x : Int) (y0 y1 : Int) (r : Rc) : Bool := decide (r.X0 < x) && decide (x < r.X1) && decide (r.Y0 < y1) && decide (y0 < r.Y1)
def cntW (x y0 y1 : Int) : List Rc → Int
 | [] => 0
 | r :: l => (if inX x y0 y1 r = true then 1 else 0) + cntW x y0 y1 l
theorem cntW_nn (x y0 y1 : Int) : ∀ l, 0 ≤ cntW x y0 y1 l ∧ (cntW x y0 y1 l = 0 ↔ ∀ r ∈ l, inX x y0 y1 r = false)
 | [] => by simp [cntW]
 | r :: l => by
  have ih := cntW_nn x y0 y1 l
  rw [cntW]
  cases hp : inX x y0 y1 r with
  | true =>
   simp only [if_true]
   refine ⟨by omega, ⟨fun e => by omega, fun hh => ?_⟩⟩
   have := hh r (by simp)
   rw [hp] at this; cases this
  | false =>
   simp only [Bool.false_eq_true, if_false, Int.zero_add]
   refine ⟨ih.1, ih.2.trans ⟨fun hh u hu => ?_, fun hh u hu => hh u (by simp [hu])⟩⟩
   rcases List.mem_cons.1 hu with e | hu
   ·rw [e]; exact hp
   ·exact hh u hu
def ltB (x : Int) (s : Sd) : Bool := decide (s.x < x) || (decide (s.x = x) && decide (s.st < 1))
theorem sides_sum (t : Sd) : ∀ {l : List Rc}, (∀ r ∈ l, ROk r) → sumW (fun s => ovS t s && ltB t.x s) (sidesOf l) = cntW t.x t.y0 t.y1 l
 | [], _ => rfl
 | r :: l, h => by
  have ih := sides_sum t (l := l) (fun u hu => h u (by simp [hu]))
  have hr := h r (by simp)
  unfold ROk Span at hr
  rw [show sidesOf (r :: l) = ⟨r.X0, r.Y0, r.Y1, 1⟩ :: ⟨r.X1, r.Y0, r.Y1, -1⟩ :: sidesOf l from rfl, sumW, sumW, ih, cntW]
  have e1 : (ovS t ⟨r.X0, r.Y0, r.Y1, 1⟩ && ltB t.x ⟨r.X0, r.Y0, r.Y1, 1⟩) = (decide (r.Y0 < t.y1) && decide (t.y0 < r.Y1) && decide (r.X0 < t.x)) := by simp [ovS, ltB]
  have e2 : (ovS t ⟨r.X1, r.Y0, r.Y1, -1⟩ && ltB t.x ⟨r.X1, r.Y0, r.Y1, -1⟩) = (decide (r.Y0 < t.y1) && decide (t.y0 < r.Y1) && decide (r.X1 ≤ t.x)) := by
   simp only [ovS, ltB]
   by_cases c1 : r.X1 < t.x
   ·simp [c1]; intro _ _; omega
   ·by_cases c2 : r.X1 = t.x
    ·simp [c2]
    ·have : ¬ r.X1 ≤ t.x := by omega
     simp [c1, c2, this]
  rw [e1, e2]
  unfold inX
  by_cases c1 : r.Y0 < t.y1 <;> by_cases c2 : t.y0 < r.Y1 <;> by_cases c3 : r.X0 < t.x <;> by_cases c4 : r.X1 ≤ t.x <;> simp [c1, c2, c3, c4] <;> omega
theorem sides_st {l : List Rc} {s : Sd} (h : s ∈ sidesOf l) : s.st = 1 ∨ s.st = -1 := by
 obtain ⟨r, _, h⟩ := List.mem_flatMap.1 h
 simp at h
 rcases h with rfl | rfl
 ·exact .inl rfl
 ·exact .inr rfl
theorem sweep_sum {l : List Rc} (hl : ∀ r ∈ l, ROk r) {P Q : List Sd} {t : Sd} (hp : (P ++ t :: Q).Perm (sidesOf l)) (hs : (P ++ t :: Q).Pairwise leS) (ht : t.st = 1) :
  sumW (ovS t) P = 0 ↔ (∀ r ∈ l, inX t.x t.y0 t.y1 r = false) ∧ ∀ s ∈ P, ovS t s = true → s.st = 1 → s.x ≠ t.x := by
 have hst : ∀ s ∈ P, s.st = 1 ∨ s.st = -1 := fun s hs => sides_st (hp.mem_iff.1 (by simp [hs]))
 obtain ⟨p1, p2, p3⟩ := List.pairwise_append.1 hs
 have p4 := List.pairwise_cons.1 p2
 have hlt : ∀ s ∈ P, leS s t := fun s h => p3 s h t (by simp)
 have hQ : ∀ s ∈ Q, ltB t.x s = false := fun s h => by
  have := p4.1 s h
  unfold leS at this
  rw [ht] at this
  simp [ltB]; omega
 have h1 := sumW_perm (fun s => ovS t s && ltB t.x s) hp
 rw [sides_sum t hl, sumW_append, sumW, sumW_zero (S := Q) (fun s h => by rw [hQ s h, Bool.and_false])] at h1
 rw [show (ovS t t && ltB t.x t) = false by simp [ltB, ht]] at h1
 simp only [Bool.false_eq_true, if_false, Int.add_zero] at h1
 have h2 := sumW_split (ovS t) (ltB t.x) P
 rw [h1] at h2
 have hc := cntW_nn t.x t.y0 t.y1 l
 have hn := sumW_nn (p := fun s => ovS t s && !ltB t.x s) (S := P) (fun s h hh => by
  simp only [Bool.and_eq_true, Bool.not_eq_true', ltB, Bool.or_eq_false_iff, decide_eq_false_iff_not, Bool.and_eq_false_iff] at hh
  have h3 := hlt s h
  unfold leS at h3
  rw [ht] at h3
  rcases hst s h with e | e
  ·exact e
  ·omega)
 rw [h2]
 constructor
 ·intro e
  have e1 : cntW t.x t.y0 t.y1 l = 0 := by omega
  have e2 : sumW (fun s => ovS t s && !ltB t.x s) P = 0 := by omega
  refine ⟨hc.2.1 e1, fun s h ho h4 h5 => ?_⟩
  have := hn.2.1 e2 s h
  rw [ho] at this
  simp [ltB, h5, h4] at this
 ·rintro ⟨a1, a2⟩
  rw [hc.2.2 a1, hn.2.2 (fun s h => ?_)]
  ·rfl
  ·by_cases ho : ovS t s = true
   ·have h3 := hlt s h
    unfold leS at h3
    rw [ht] at h3
    rcases hst s h with e | e
    ·have := a2 s h ho e
     have h5 : s.x < t.x := by omega
     simp [ltB, h5]
    ·have : ltB t.x s = true := by
      simp only [ltB, Bool.or_eq_true, Bool.and_eq_true, decide_eq_true_eq]
      omega
     simp [this]
   ·simp at ho; simp [ho]
def bgB (s : Sd) : Bool := decide (s.st = 1)
theorem sides_begin : ∀ l : List Rc, (sidesOf l).filter bgB = l.map fun r => ⟨r.X0, r.Y0, r.Y1, 1⟩
 | [] => rfl
 | r :: l => by
  rw [show sidesOf (r :: l) = ⟨r.X0, r.Y0, r.Y1, 1⟩ :: ⟨r.X1, r.Y0, r.Y1, -1⟩ :: sidesOf l from rfl, List.filter_cons, List.filter_cons, sides_begin l]
  simp [bgB]
def apS (s t : Sd) : Prop := s.x = t.x → ovS t s = false
theorem apS_symm {s t : Sd} (h : apS s t) : apS t s := fun e => by
 have := h e.symm
 unfold ovS at this ⊢
 rw [Bool.and_comm]
 exact this
theorem sweep_iff {l : List Rc} (hl : ∀ r ∈ l, ROk r) {S : List Sd} (hp : S.Perm (sidesOf l)) (hs : S.Pairwise leS) :
  (∀ P t Q, S = P ++ t :: Q → t.st = 1 → sumW (ovS t) P = 0) ↔ l.Pairwise Apt := by
 have hb : (S.filter bgB).Perm (l.map fun r => (⟨r.X0, r.Y0, r.Y1, 1⟩ : Sd)) := by rw [← sides_begin l]; exact hp.filter _
 have hpw : (S.filter bgB).Pairwise apS ↔ l.Pairwise (fun r q => r.X0 = q.X0 → ¬ (r.Y0 < q.Y1 ∧ q.Y0 < r.Y1)) := by
  rw [hb.pairwise_iff apS_symm, List.pairwise_map]
  constructor
  ·intro h
   refine h.imp (fun {r q} hh e c => ?_)
   have := hh e
   simp [ovS] at this
   omega
  ·intro h
   refine h.imp (fun {r q} hh e => ?_)
   have := hh e
   simp only [ovS, Bool.and_eq_false_iff, decide_eq_false_iff_not]
   simp only at e
   omega
 constructor
 ·intro h
  have h1 : (S.filter bgB).Pairwise apS := by
   rw [List.pairwise_filter]
   refine List.pairwise_iff_getElem.2 (fun i j hi hj hij b1 b2 e => ?_)
   have e2 : S = S.take j ++ S[j] :: S.drop (j + 1) := by simp
   have h3 := (sweep_sum hl (P := S.take j) (t := S[j]) (Q := S.drop (j + 1)) (by rw [← e2]; exact hp) (by rw [← e2]; exact hs) (by simpa [bgB] using b2)).1 (h _ _ _ e2 (by simpa [bgB] using b2))
   by_cases ho : ovS S[j] S[i] = true
   ·exact absurd e (h3.2 S[i] (List.mem_take_iff_getElem.2 ⟨i, by omega, rfl⟩) ho (by simpa [bgB] using b1))
   ·simpa using ho
  have h2 := hpw.1 h1
  have h4 : ∀ r ∈ l, ∀ q ∈ l, inX q.X0 q.Y0 q.Y1 r = false := fun r hr q hq => by
   have hm : (⟨q.X0, q.Y0, q.Y1, 1⟩ : Sd) ∈ S := hp.mem_iff.2 (List.mem_flatMap.2 ⟨q, hq, by simp⟩)
   obtain ⟨P, Q, e⟩ := List.append_of_mem hm
   subst e
   exact ((sweep_sum hl hp hs rfl).1 (h _ _ _ rfl rfl)).1 r hr
  refine List.Pairwise.imp_of_mem (fun {r q} hr hq hh c => ?_) h2
  have a1 := h4 r hr q hq
  have a2 := h4 q hq r hr
  have or := hl r hr
  have oq := hl q hq
  unfold ROk Span at or oq
  simp only [inX, Bool.and_eq_false_iff, decide_eq_false_iff_not] at a1 a2
  have := hh
  by_cases e : r.X0 = q.X0
  ·exact hh e ⟨c.2.2.1, c.2.2.2⟩
  ·omega
 ·rintro h P t Q rfl ht
  refine (sweep_sum hl hp hs ht).2 ⟨fun r hr => ?_, fun s hs2 ho h1 h2 => ?_⟩
  ·have hm : t ∈ sidesOf l := hp.mem_iff.1 (by simp)
   obtain ⟨q, hq, hm⟩ := List.mem_flatMap.1 hm
   simp at hm
   rcases hm with rfl | rfl
   ·by_cases e : r = q
    ·subst e; simp [inX]
    ·have h3 : Apt r q ∨ Apt q r := by
      obtain ⟨i, hi, rfl⟩ := List.getElem_of_mem hr
      obtain ⟨j, hj, rfl⟩ := List.getElem_of_mem hq
      rcases Nat.lt_trichotomy i j with c | c | c
      ·exact .inl (List.pairwise_iff_getElem.1 h i j hi hj c)
      ·subst c; exact absurd rfl e
      ·exact .inr (List.pairwise_iff_getElem.1 h j i hj hi c)
     have oq := hl q hq
     have or := hl r hr
     unfold ROk Span at oq or
     unfold Apt at h3
     simp only [inX, Bool.and_eq_false_iff, decide_eq_false_iff_not]
     omega
   ·simp at ht
  ·have h3 := hpw.2 (List.Pairwise.imp_of_mem (fun {r q} hr hq hh e c => hh ⟨by have := hl q hq; unfold ROk Span at this; omega, by have := hl r hr; unfold ROk Span at this; omega, c.1, c.2⟩) h)
   rw [List.filter_append, List.pairwise_append] at h3
   have := h3.2.2 s (List.mem_filter.2 ⟨hs2, by simp [bgB, h1]⟩) t (List.mem_filter.2 ⟨by simp, by simp [bgB, ht]⟩) h2
   rw [this] at ho
   cases ho
end Go.Proofs.YtngddecpfhlilaaGreat
namespace Go.Proofs.YtngddecpfhlilaaGreat
def chg (f : Nat → Bool) : Nat → Nat
 | 0 => 0
 | n + 1 => chg f n + if f n = f (n + 1) then 0 else 1
end Go.Proofs.YtngddecpfhlilaaGreat
namespace Go.Proofs.YtngddecpfhlilaaGreat
def polyR (T : Int → Int → List Int) : List Int → List Rc
 | [] => []
 | [_] => []
 | a :: b :: t => rectsOf a b (T a b) ++ polyR T (b :: t)
theorem hasL_append (l m : List Rc) (x y : Int) : HasL (l ++ m) x y ↔ HasL l x y ∨ HasL m x y := by
 unfold HasL
 constructor
 ·rintro ⟨r, hr, h⟩
  rcases List.mem_append.1 hr with h1 | h1
  ·exact Or.inl ⟨r, h1, h⟩
  ·exact Or.inr ⟨r, h1, h⟩
 ·rintro (⟨r, hr, h⟩ | ⟨r, hr, h⟩)
  ·exact ⟨r, List.mem_append_left _ hr, h⟩
  ·exact ⟨r, List.mem_append_right _ hr, h⟩
def ColsOk (T : Int → Int → List Int) (q : Int → Int → Bool) (xs : List Int) : Prop :=
 ∀ a b, a ∈ xs → b ∈ xs → a < b → (∀ c ∈ xs, c ≤ a ∨ b ≤ c) → Even (T a b) ∧ Asc (T a b) ∧ InG (T a b) ∧ ∀ x y, a ≤ x → x < b → inT (T a b) y = q x y
theorem ColsOk.tail {T : Int → Int → List Int} {q : Int → Int → Bool} {a b : Int} {t : List Int} (ha : Asc (a :: b :: t)) (h : ColsOk T q (a :: b :: t)) : ColsOk T q (b :: t) :=
 fun c d hc hd hlt hn => h c d (List.mem_cons_of_mem _ hc) (List.mem_cons_of_mem _ hd) hlt fun e he => by
  rcases List.mem_cons.1 he with rfl | he
  ·left
   have := Asc.lt ha c hc
   omega
  ·exact hn e he
theorem asc_le {b : Int} {t : List Int} (h : Asc (b :: t)) {c : Int} (hc : c ∈ b :: t) : b ≤ c := by
 rcases List.mem_cons.1 hc with rfl | hc
 ·omega
 ·have := Asc.lt h c hc; omega
theorem polyR_has {T : Int → Int → List Int} {q : Int → Int → Bool} : ∀ xs, Asc xs → InG xs → ColsOk T q xs → ∀ x y,
  HasL (polyR T xs) x y ↔ (∃ a ∈ xs, a ≤ x) ∧ (∃ b ∈ xs, x < b) ∧ q x y = true
 | [], _, _, _, x, y => by
  constructor
  ·rintro ⟨r, hr, _⟩; cases hr
  ·rintro ⟨⟨a, ha, _⟩, _⟩; cases ha
 | [a], _, _, _, x, y => by
  constructor
  ·rintro ⟨r, hr, _⟩; cases hr
  ·rintro ⟨⟨c, hc, h1⟩, ⟨d, hd, h2⟩, _⟩
   rw [List.mem_singleton] at hc hd
   omega
 | a :: b :: t, hA, hG, hC, x, y => by
  have ih := polyR_has (b :: t) hA.2 (fun c hc => hG c (List.mem_cons_of_mem _ hc)) (hC.tail hA) x y
  obtain ⟨c1, c2, c3, c4⟩ := hC a b List.mem_cons_self (List.mem_cons_of_mem _ List.mem_cons_self) hA.1 (fun c hc => by
   rcases List.mem_cons.1 hc with rfl | hc
   ·left; omega
   ·right; exact asc_le hA.2 hc)
  have hs : Span a b := ⟨(hG a List.mem_cons_self).1, hA.1, (hG b (List.mem_cons_of_mem _ List.mem_cons_self)).2⟩
  have h0 := rects_has hs (T a b) c1 c2 c3 x y
  rw [show polyR T (a :: b :: t) = rectsOf a b (T a b) ++ polyR T (b :: t) from rfl, hasL_append, h0, ih]
  have hab := hA.1
  constructor
  ·rintro (⟨h1, h2, h3⟩ | ⟨⟨c, hc, h1⟩, ⟨d, hd, h2⟩, h3⟩)
   ·exact ⟨⟨a, List.mem_cons_self, h1⟩, ⟨b, List.mem_cons_of_mem _ List.mem_cons_self, h2⟩, by rw [← c4 x y h1 h2]; exact h3⟩
   ·exact ⟨⟨c, List.mem_cons_of_mem _ hc, h1⟩, ⟨d, List.mem_cons_of_mem _ hd, h2⟩, h3⟩
  ·rintro ⟨⟨c, hc, h1⟩, ⟨d, hd, h2⟩, h3⟩
   by_cases hb : x < b
   ·left
    have ha : a ≤ x := by
     rcases List.mem_cons.1 hc with rfl | hc
     ·exact h1
     ·have := asc_le hA.2 hc; omega
    exact ⟨ha, hb, by rw [c4 x y ha hb]; exact h3⟩
   ·right
    refine ⟨⟨b, List.mem_cons_self, by omega⟩, ⟨d, ?_, h2⟩, h3⟩
    rcases List.mem_cons.1 hd with rfl | hd
    ·omega
    ·exact hd
end Go.Proofs.YtngddecpfhlilaaGreat
namespace Go.Proofs.YtngddecpfhlilaaGreat
def polyS (T : Int → Int → List Int) : List Int → List Slab
 | [] => []
 | [_] => []
 | a :: b :: t => ⟨a, b, T a b⟩ :: polyS T (b :: t)
end Go.Proofs.YtngddecpfhlilaaGreat
namespace Go.Proofs.YtngddecpfhlilaaGreat
open Go.RowKit
def SpRow (w : World) (B : Nat) (A : Option Addr) (P : List (Int × Int)) : Prop := 0 < P.length → ∃ b off, A = some ⟨b, off, none⟩ ∧ B ≤ b ∧ b < w.heap.size ∧ ∀ j (h : j < P.length), w.cell? ⟨b, off + j * 2, none⟩ = some (.int .i64 P[j].1) ∧ w.cell? ⟨b, off + j * 2 + 1, none⟩ = some (.int .i64 P[j].2)
theorem SpRow.nil (w : World) (B : Nat) (A : Option Addr) : SpRow w B A [] := fun h => absurd h (by simp)
theorem SpRow.below {w w' : World} {B : Nat} {A : Option Addr} {P : List (Int × Int)} (h : SpRow w B A P) (hb : Below w.heap.size w w') : SpRow w' B A P := fun h0 => by
 obtain ⟨b, off, rfl, hB, hl, hc⟩ := h h0
 exact ⟨b, off, rfl, hB, Nat.lt_of_lt_of_le hl hb.size, fun j hj => ⟨(hb.cell (p := ⟨b, off + j * 2, none⟩) hl).trans (hc j hj).1, (hb.cell (p := ⟨b, off + j * 2 + 1, none⟩) hl).trans (hc j hj).2⟩⟩
theorem SpRow.base {w : World} {B B' : Nat} {A : Option Addr} {P : List (Int × Int)} (h : SpRow w B A P) (hB : B' ≤ B) : SpRow w B' A P := fun h0 => by
 obtain ⟨b, off, rfl, h1, h2, h3⟩ := h h0
 exact ⟨b, off, rfl, by omega, h2, h3⟩
structure OwnR (v : Value) (l : List Rc) (w wr : World) : Prop where
 own : wr.ownsRow w.heap.size 68 4 v l.length (rcells l)
 bel : Below w.heap.size w wr
theorem OwnR.go {v : Value} {l : List Rc} {w wr w' : World} (h : OwnR v l w wr) (hb : Below wr.heap.size wr w') : OwnR v l w w' := ⟨own_go h.own hb, h.bel.trans (hb.mono h.bel.size)⟩
theorem OwnR.start (w : World) : OwnR (.slice none 0 0) [] w w := ⟨World.ownsRow_nil _ _ _ _, Below.refl _ _⟩
theorem OwnR.grown {v v' : Value} {l l' : List Rc} {w wr w' : World} (h : OwnR v l w wr) (ho : w'.ownsRow w.heap.size 68 4 v' l'.length (rcells l')) (hg : wr.grownBy w' v.ownBlock) : OwnR v' l' w w' :=
 ⟨ho, Below.grown h.bel hg h.bel.size (fun k hk => (h.own.lt k hk).1)⟩
end Go.Proofs.YtngddecpfhlilaaGreat
