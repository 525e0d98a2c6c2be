/-
  Contracts of layer 13 (7): areApart: what its loops keep.
  RegionAlgebra: an append of a slice that was handed in, and what the sets say.
  Mathematics: the boxes of a solid.
  Rows of boxes in memory, as a function that makes one hands it back.
  Contracts of the program's layer 6 (13): Has, with slices.ContainsFunc and slices.IndexFunc at its closure.
  Contracts of the program's layer 9, 3: Has, Volume, Section, Same.
-/
import Derived.Test.YtngddecpfhlilaaGreatC21
import Derived.Test.YtngddecpfhlilaaGreatC19
import Derived.Test.YtngddecpfhlilaaGreatC20
import Derived.Laws.AppendOwn
import Derived.Test.YtngddecpfhlilaaGreatWs
import Derived.Test.YtngddecpfhlilaaGreatC11
import Derived.Test.YtngddecpfhlilaaGreatC05
import Derived.Laws.AppendOwnNone
import Derived.Test.YtngddecpfhlilaaGreatC09
import Derived.Test.YtngddecpfhlilaaGreatC12
import Derived.Test.YtngddecpfhlilaaGreatC15
import Derived.Shelf.Abstract
set_option linter.unusedVariables false
set_option maxRecDepth 100000
namespace Go.Proofs.YtngddecpfhlilaaGreat
open Go.RowKit
theorem sdcells_append (E F : List Sd) : sdcells (E ++ F) = sdcells E ++ sdcells F := by simp [sdcells]
theorem sdcells_at : ∀ (L : List Sd) (j : Nat) (h : j < L.length), (sdcells L)[j * 4]? = some (.int .i64 L[j].x) ∧ (sdcells L)[j * 4 + 1]? = some (.int .i64 L[j].y0) ∧ (sdcells L)[j * 4 + 2]? = some (.int .i64 L[j].y1) ∧ (sdcells L)[j * 4 + 3]? = some (.int .i64 L[j].st) := by
 intro L
 induction L with
 | nil => intro j h; exact absurd h (by simp)
 | cons t L ih =>
  intro j h
  cases j with
  | zero => exact ⟨rfl, rfl, rfl, rfl⟩
  | succ j =>
   have := ih j (by simp at h; omega)
   rw [show (j + 1) * 4 = j * 4 + 1 + 1 + 1 + 1 by omega]
   exact this
theorem infoSd : (Tryz.prog.info? 113).map (fun i => (i.zero, i.size, i.bytes)) = some (some (.agg #[.int .i64 0, .int .i64 0, .int .i64 0, .int .i64 0]), 4, 32) := by kernel_rfl
structure ApW (v1 v2 : Value) (R : List Int) (S : List Sd) (w wr : World) : Prop where
 o1 : wr.ownsRow w.heap.size 3 1 v1 R.length (icells R)
 o2 : wr.ownsRow w.heap.size 113 4 v2 S.length (sdcells S)
 bel : Below w.heap.size w wr
theorem ApW.nil (w : World) : ApW (.slice none 0 0) (.slice none 0 0) [] [] w w := ⟨World.ownsRow_nil _ _ _ _, World.ownsRow_nil _ _ _ _, Below.refl _ _⟩
theorem ApW.go {v1 v2 : Value} {R : List Int} {S : List Sd} {w wr w' : World} (h : ApW v1 v2 R S w wr) (hb : Below wr.heap.size wr w') : ApW v1 v2 R S w w' := ⟨own_go h.o1 hb, own_go h.o2 hb, h.bel.trans (hb.mono h.bel.size)⟩
theorem ApW.app1 {v1 v2 v' : Value} {R : List Int} {S : List Sd} {x : Int} {w wr w' : World} (h : ApW v1 v2 R S w wr) (ho : w'.ownsRow w.heap.size 3 1 v' (R.length + 1) (icells R ++ [.int .i64 x])) (hg : wr.grownBy w' v1.ownBlock) : ApW v' v2 (R ++ [x]) S w w' :=
 ⟨by rw [icells_snoc]; simpa using ho, own_kept h.o1 h.o2 (by decide) hg, h.bel.grown hg h.bel.size (fun k hk => (h.o1.lt k hk).1)⟩
theorem ApW.app2 {v1 v2 v' : Value} {R : List Int} {S T : List Sd} {w wr w' : World} (h : ApW v1 v2 R S w wr) (ho : w'.ownsRow w.heap.size 113 4 v' (S.length + T.length) (sdcells S ++ sdcells T)) (hg : wr.grownBy w' v2.ownBlock) : ApW v1 v' R (S ++ T) w w' :=
 ⟨own_kept h.o2 h.o1 (by decide) hg, by rw [sdcells_append, List.length_append]; exact ho, h.bel.grown hg h.bel.size (fun k hk => (h.o2.lt k hk).1)⟩
def SdRow (w : World) (A : Option Addr) (E : List Sd) : Prop := 0 < E.length → ∃ g, A = some ⟨g, 0, none⟩ ∧ g < w.heap.size ∧ ∀ j (h : j < E.length), w.cell? ⟨g, j * 4, none⟩ = some (.int .i64 E[j].x) ∧ w.cell? ⟨g, j * 4 + 1, none⟩ = some (.int .i64 E[j].y0) ∧ w.cell? ⟨g, j * 4 + 2, none⟩ = some (.int .i64 E[j].y1) ∧ w.cell? ⟨g, j * 4 + 3, none⟩ = some (.int .i64 E[j].st)
theorem SdRow.below {w w' : World} {A : Option Addr} {E : List Sd} (h : SdRow w A E) (hb : Below w.heap.size w w') : SdRow w' A E := fun h0 => by
 obtain ⟨g, e, hg, hc⟩ := h h0
 have wc := fun o => hb.cell (p := ⟨g, o, none⟩) hg
 exact ⟨g, e, Nat.lt_of_lt_of_le hg hb.size, fun j hj => ⟨(wc _).trans (hc j hj).1, (wc _).trans (hc j hj).2.1, (wc _).trans (hc j hj).2.2.1, (wc _).trans (hc j hj).2.2.2⟩⟩
theorem sort13_any {B : Nat} {v : Value} {S : List Sd} {w : World} (h : w.ownsRow B 113 4 v S.length (sdcells S)) (hl : S.length ≤ 1099511627776) :
  ∃ A cap, v = .slice A S.length cap ∧ S.length ≤ cap ∧ cap ≤ 9223372036854775807 ∧ Calls Tryz.prog 104 #[.slice A S.length cap, .func (.func 105) #[] #[]] w fun e w' => e = .returned (.tuple #[]) ∧ ∃ E, S.Perm E ∧ E.Pairwise (fun x y => ¬ PLt (keyS y) (keyS x)) ∧ SdRow w' A E ∧ w.grownBy w' v.ownBlock := by
 have hh := h
 have hlt := h.lt
 obtain ⟨h1, h2⟩ := h
 rcases h2 with ⟨rfl, h3⟩ | ⟨g, cap, cur, rfl, hB, hg, h4⟩
 ·have hz : S = [] := List.eq_nil_of_length_eq_zero h3
  subst hz
  refine ⟨none, 0, rfl, by simp, by omega, ?_⟩
  have hcon := Go.Proofs.AnyF.slices_SortFunc_none Go.Proofs.Tryz.laysSlF06_f104 none 0 (.func (.func 105) #[] #[]) w
  change Calls Tryz.prog 104 _ _ _ at hcon
  refine hcon.mono ?_
  rintro e w' ⟨rfl, rfl⟩
  exact ⟨rfl, [], List.Perm.refl _, List.Pairwise.nil, fun h => absurd h (by simp), World.grownBy.refl _ _⟩
 ·refine ⟨_, cap, rfl, h4.1, by have := h4.2.1; unfold maxLen at this; omega, ?_⟩
  refine (sortSd_any B g cap S w hh hl).mono ?_
  rintro e w' ⟨rfl, E, hp, hs, hc, hgr⟩
  refine ⟨rfl, E, hp, hs, fun h0 => ⟨g, rfl, Nat.lt_of_lt_of_le (hlt g rfl).2 hgr.size, fun j hj => ?_⟩, hgr⟩
  obtain ⟨e0, e1, e2, e3⟩ := sdcells_at E j hj
  exact ⟨(hc _ (by omega)).trans e0, (hc _ (by omega)).trans e1, (hc _ (by omega)).trans e2, (hc _ (by omega)).trans e3⟩
def ixR (R : List Int) (y : Int) : Nat := R.countP fun a => decide (a < y)
theorem ixR_le (R : List Int) (y : Int) : ixR R y ≤ R.length := List.countP_le_length
theorem PosI.ix {R : List Int} {y : Int} {i : Nat} (h : PosI R y i) : i = ixR R y := by
 unfold ixR
 have e : R.countP (fun a => decide (a < y)) = (R.take i).countP (fun a => decide (a < y)) + (R.drop i).countP (fun a => decide (a < y)) := by rw [← List.countP_append, List.take_append_drop]
 have e1 : (R.take i).countP (fun a => decide (a < y)) = (R.take i).length := List.countP_eq_length.2 (fun a ha => by
  obtain ⟨k, hk, rfl⟩ := List.getElem_of_mem ha
  rw [List.length_take] at hk
  rw [List.getElem_take]
  simpa using h.lo k (by omega) (by omega))
 have e2 : (R.drop i).countP (fun a => decide (a < y)) = 0 := List.countP_eq_zero.2 (fun a ha => by
  obtain ⟨k, hk, rfl⟩ := List.getElem_of_mem ha
  rw [List.length_drop] at hk
  rw [List.getElem_drop]
  have := h.hi (i + k) (by omega) (by omega)
  simp; omega)
 have := h.le
 rw [e, e1, e2, List.length_take]; omega
theorem ixR_mono {R : List Int} {a b : Int} (h : a ≤ b) : ixR R a ≤ ixR R b := List.countP_mono_left (fun x _ hx => by simp at hx ⊢; omega)
theorem ixR_lt {R : List Int} {a b : Int} (ha : a ∈ R) (h : a < b) : ixR R a < ixR R b := by
 unfold ixR
 induction R with
 | nil => exact nomatch ha
 | cons c R ih =>
  rw [List.countP_cons, List.countP_cons]
  have hm := ixR_mono (R := R) (a := a) (b := b) (by omega)
  unfold ixR at hm
  rcases List.mem_cons.1 ha with e | ha
  ·subst e
   simp only [Int.lt_irrefl, decide_false, Bool.false_eq_true, if_false, h, decide_true, if_true]
   omega
  ·have := ih ha
   by_cases c1 : c < a
   ·have : c < b := by omega
    simp only [c1, this, decide_true, if_true]; omega
   ·simp only [c1, decide_false, Bool.false_eq_true, if_false]; omega
theorem ix_iff1 {R : List Int} {a b : Int} (ha : a ∈ R) : ixR R a < ixR R b ↔ a < b := by
 constructor
 ·intro h
  rcases Int.lt_or_le a b with c | c
  ·exact c
  ·have := ixR_mono (R := R) c; omega
 ·exact ixR_lt ha
theorem ix_iff2 {R : List Int} {a b : Int} (hb : b ∈ R) : ixR R a < ixR R b + 1 ↔ a ≤ b := by
 constructor
 ·intro h
  rcases Int.lt_or_le b a with c | c
  ·have := ixR_lt hb c; omega
  ·exact c
 ·intro h; have := ixR_mono (R := R) h; omega
theorem sweep_two {t : Sd} : ∀ {P : List Sd}, (∀ s ∈ P, s.y0 < s.y1) → t.y0 < t.y1 → (sumW (fun s => decide (s.y0 < t.y1)) P = sumW (fun s => decide (s.y1 ≤ t.y0)) P ↔ sumW (ovS t) P = 0) := by
 intro P h ht
 have h1 := sumW_split (fun s => decide (s.y0 < t.y1)) (fun s => decide (t.y0 < s.y1)) P
 have h2 : sumW (fun s => decide (s.y0 < t.y1) && !decide (t.y0 < s.y1)) P = sumW (fun s => decide (s.y1 ≤ t.y0)) P := sumW_congr (fun s hs => by
  have := h s hs
  by_cases c : t.y0 < s.y1
  ·have : ¬ s.y1 ≤ t.y0 := by omega
   simp [c, this]
  ·have c2 : s.y1 ≤ t.y0 := by omega
   have c3 : s.y0 < t.y1 := by omega
   simp [c, c2, c3])
 have h3 : sumW (fun s => decide (s.y0 < t.y1) && decide (t.y0 < s.y1)) P = sumW (ovS t) P := rfl
 omega
theorem sumW_bd (p : Sd → Bool) : ∀ {S : List Sd}, (∀ s ∈ S, s.st = 1 ∨ s.st = -1) → -(S.length : Int) ≤ sumW p S ∧ sumW p S ≤ S.length
 | [], _ => by simp [sumW]
 | s :: S, h => by
  have ih := sumW_bd p (S := S) (fun u hu => h u (by simp [hu]))
  have h1 := h s (by simp)
  rw [sumW, List.length_cons]
  split <;> omega
structure CtAt (R : List Int) (E : List Sd) (gB gE m : Nat) (k : Nat) (wb wr : World) : Prop where
 c : ∃ c1 c2 : List Int, c1.length = m ∧ c2.length = m ∧ wr.ownsRow wb.heap.size 3 1 (.slice (some ⟨gB, 0, none⟩) m m) m (icells c1) ∧ wr.ownsRow wb.heap.size 3 1 (.slice (some ⟨gE, 0, none⟩) m m) m (icells c2) ∧ CntOk c1 (fun i => sumW (fun s => decide (ixR R s.y0 < i)) (E.take k)) ∧ CntOk c2 (fun i => sumW (fun s => decide (ixR R s.y1 < i)) (E.take k))
 bel : Below wb.heap.size wb wr
theorem own_far {w w' : World} {B' e s n' g g' : Nat} {cap' : Nat} {xs' : List Value} (h' : w.ownsRow B' e s (.slice (some ⟨g', 0, none⟩) n' cap') n' xs') (hne : g' ≠ g) (hg : w.grownBy w' (some g)) : w'.ownsRow B' e s (.slice (some ⟨g', 0, none⟩) n' cap') n' xs' :=
 own_stays h' (fun k hk => by
  have e1 : k = g' := by simpa [Value.ownBlock] using hk.symm
  subst e1
  exact hg.block k (h'.lt k rfl).2 (fun e => hne (by injection e)))
theorem pre_step (f : Sd → Nat) (E : List Sd) (k : Nat) (hk : k < E.length) : (fun i => sumW (fun s => decide (f s < i)) (E.take (k + 1))) = upP (fun i => sumW (fun s => decide (f s < i)) (E.take k)) (f E[k]) E[k].st := by
 funext i
 rw [← List.take_append_getElem hk, sumW_append]
 unfold upP
 simp [sumW]
noncomputable def apB (l : List Rc) : Bool := @decide (l.Pairwise Apt) (Classical.propDecidable _)
def ap1 (l : List Rc) : List Int := l.map fun r => r.Y0
theorem apB_iff {l : List Rc} (hok : ∀ r ∈ l, ROk r) {E : List Sd} (hp : (sidesOf l).Perm E) (hs : E.Pairwise fun x y => ¬ PLt (keyS y) (keyS x)) :
  (apB l = true ↔ ∀ j (h : j < E.length), E[j].st = 1 → sumW (ovS E[j]) (E.take j) = 0) := by
 have hle : E.Pairwise leS := hs.imp (fun {x y} h => by
  unfold PLt keyS at h
  unfold leS
  simp only at h
  omega)
 unfold apB
 rw [@decide_eq_true_iff _ (Classical.propDecidable _), ← sweep_iff hok hp.symm hle]
 constructor
 ·intro h j hj he
  exact h (E.take j) E[j] (E.drop (j + 1)) (by simp) he
 ·rintro h P t Q rfl he
  have := h P.length (by simp) (by simpa using he)
  simpa using this
theorem sides_facts {l : List Rc} (hok : ∀ r ∈ l, ROk r) {E : List Sd} (hp : (sidesOf l).Perm E) : ∀ s ∈ E, s.y0 ∈ sortS (ap1 l) ∧ s.y0 < s.y1 ∧ (s.st = 1 ∨ s.st = -1) ∧ 0 ≤ s.y0 ∧ s.y1 ≤ 1048576 := fun s hs => by
 have h1 := hp.mem_iff.2 hs
 obtain ⟨r, hr, h2⟩ := List.mem_flatMap.1 h1
 have h3 := hok r hr
 unfold ROk Span at h3
 have h4 : r.Y0 ∈ sortS (ap1 l) := ((sortS_is _).2 _).2 (List.mem_map.2 ⟨r, hr, rfl⟩)
 simp at h2
 rcases h2 with rfl | rfl
 ·exact ⟨h4, by simp only; omega, .inl rfl, by simp only; omega, by simp only; omega⟩
 ·exact ⟨h4, by simp only; omega, .inr rfl, by simp only; omega, by simp only; omega⟩
theorem sortS_len (l : List Int) : (sortS l).length ≤ l.length := by
 unfold sortS
 have : ∀ (l t : List Int), (l.foldl (fun t x => insS x t) t).length ≤ t.length + l.length := fun l => by
  induction l with
  | nil => intro t; simp
  | cons a l ih =>
   intro t
   have h1 := ih (insS a t)
   have h2 : (insS a t).length ≤ t.length + 1 := by
    clear ih h1
    induction t with
    | nil => simp [insS]
    | cons b t ih => unfold insS; split <;> (try split) <;> simp <;> omega
   rw [List.foldl_cons, List.length_cons]; omega
 have := this l []
 simpa using this
theorem CtAt.start (R : List Int) (E : List Sd) (w : World) (m : Nat) (hm : 8 * m ≤ 140737488355328) (hm2 : m ≤ maxLen) : CtAt R E w.heap.size (w.heap.size + 1) m 0 w ((w.alloc (.cells (icells (List.replicate m 0)).toArray 3)).alloc (.cells (icells (List.replicate m 0)).toArray 3)) := by
 have e1 : (fun i => sumW (fun s => decide (ixR R s.y0 < i)) (E.take 0)) = fun _ => 0 := by funext i; simp [sumW]
 have e2 : (fun i => sumW (fun s => decide (ixR R s.y1 < i)) (E.take 0)) = fun _ => 0 := by funext i; simp [sumW]
 have z1 := World.ownsRow_lit (base := w.heap.size) w (icells (List.replicate m 0)).toArray m (Nat.le_refl _) hm2 (e := 3) (size := 1) (by simp [icells])
 have z2 := World.ownsRow_lit (base := w.heap.size) (w.alloc (.cells (icells (List.replicate m 0)).toArray 3)) (icells (List.replicate m 0)).toArray m (by simp) hm2 (e := 3) (size := 1) (by simp [icells])
 rw [World.size_alloc] at z2
 refine ⟨⟨List.replicate m 0, List.replicate m 0, by simp, by simp, ?_, ?_, by rw [e1]; exact CntOk.zero m, by rw [e2]; exact CntOk.zero m⟩, ((Below.refl _ _).alloc (Nat.le_refl _) _).alloc (by simp) _⟩
 ·exact z1.alloc _
 ·exact z2
theorem CtAt.go {R : List Int} {E : List Sd} {gB gE m k : Nat} {wb wr w' : World} (h : CtAt R E gB gE m k wb wr) (hb : Below wr.heap.size wr w') : CtAt R E gB gE m k wb w' := by
 obtain ⟨c1, c2, h1, h2, o1, o2, h3, h4⟩ := h.c
 exact ⟨⟨c1, c2, h1, h2, own_go o1 hb, own_go o2 hb, h3, h4⟩, h.bel.trans (hb.mono h.bel.size)⟩
structure CtMd (R : List Int) (E : List Sd) (gB gE m : Nat) (k : Nat) (wb wr : World) : Prop where
 c : ∃ c1 c2 : List Int, c1.length = m ∧ c2.length = m ∧ wr.ownsRow wb.heap.size 3 1 (.slice (some ⟨gB, 0, none⟩) m m) m (icells c1) ∧ wr.ownsRow wb.heap.size 3 1 (.slice (some ⟨gE, 0, none⟩) m m) m (icells c2) ∧ CntOk c1 (fun i => sumW (fun s => decide (ixR R s.y0 < i)) (E.take (k + 1))) ∧ CntOk c2 (fun i => sumW (fun s => decide (ixR R s.y1 < i)) (E.take k))
 bel : Below wb.heap.size wb wr
theorem pre_bd (f : Sd → Nat) {E : List Sd} (hE : ∀ s ∈ E, s.st = 1 ∨ s.st = -1) (hl : E.length ≤ 4398046511104) (k : Nat) : PreBd (fun i => sumW (fun s => decide (f s < i)) (E.take k)) := fun j => by
 have := sumW_bd (fun s => decide (f s < j)) (S := E.take k) (fun s hs => hE s (List.mem_of_mem_take hs))
 rw [List.length_take] at this
 simp only
 omega
theorem ct_bef1 {R : List Int} {E : List Sd} {gB gE m k : Nat} {wb wr : World} (h : CtAt R E gB gE m k wb wr) (hE : ∀ s ∈ E, s.st = 1 ∨ s.st = -1) (hl : E.length ≤ 4398046511104) (hm : m ≤ 4398046511104) {i : Nat} (hi : i < m) :
  Calls Tryz.prog 110 #[.slice (some ⟨gB, 0, none⟩) m m, .int .i64 (i : Int)] wr (InIs (sumW (fun s => decide (ixR R s.y0 < i)) (E.take k)) wr) := by
 obtain ⟨c1, c2, h1, h2, o1, o2, h3, h4⟩ := h.c
 exact before_any wb.heap.size gB c1 _ i m wr o1 h1.symm hm h3 (pre_bd _ hE hl k) hi
theorem ct_bef2 {R : List Int} {E : List Sd} {gB gE m k : Nat} {wb wr : World} (h : CtAt R E gB gE m k wb wr) (hE : ∀ s ∈ E, s.st = 1 ∨ s.st = -1) (hl : E.length ≤ 4398046511104) (hm : m ≤ 4398046511104) {i : Nat} (hi : i < m) :
  Calls Tryz.prog 110 #[.slice (some ⟨gE, 0, none⟩) m m, .int .i64 (i : Int)] wr (InIs (sumW (fun s => decide (ixR R s.y1 < i)) (E.take k)) wr) := by
 obtain ⟨c1, c2, h1, h2, o1, o2, h3, h4⟩ := h.c
 exact before_any wb.heap.size gE c2 _ i m wr o2 h2.symm hm h4 (pre_bd _ hE hl k) hi
theorem ct_add1 {R : List Int} {E : List Sd} {gB gE m k : Nat} {wb wr : World} (h : CtAt R E gB gE m k wb wr) (hne : gB ≠ gE) (hB : wb.heap.size ≤ gB) (hE : ∀ s ∈ E, s.st = 1 ∨ s.st = -1) (hl : E.length ≤ 4398046511104) (hm : m ≤ 4398046511104) (hk : k < E.length) (hi : ixR R E[k].y0 < 4398046511104) :
  Calls Tryz.prog 111 #[.slice (some ⟨gB, 0, none⟩) m m, .int .i64 (ixR R E[k].y0 : Int), .int .i64 E[k].st] wr fun e w' => e = .returned (.tuple #[]) ∧ CtMd R E gB gE m k wb w' ∧ wr.grownBy w' (some gB) := by
 obtain ⟨c1, c2, h1, h2, o1, o2, h3, h4⟩ := h.c
 have hst := hE E[k] (List.getElem_mem hk)
 refine (add_any wb.heap.size gB c1 _ (ixR R E[k].y0) m E[k].st wr o1 h1.symm hm h3 (pre_bd _ hE hl k) (by omega) hi).mono ?_
 rintro e w' ⟨rfl, c', hc1, hc2, hc3, hg⟩
 refine ⟨rfl, ⟨⟨c', c2, by rw [hc1, h1], h2, hc2 _ o1, own_far o2 (fun e => hne e.symm) hg, ?_, h4⟩, h.bel.grown hg h.bel.size (fun k e => by cases e; exact hB)⟩, hg⟩
 rw [pre_step _ E k hk]
 exact hc3
theorem ct_add2 {R : List Int} {E : List Sd} {gB gE m k : Nat} {wb wr : World} (h : CtMd R E gB gE m k wb wr) (hne : gB ≠ gE) (hB : wb.heap.size ≤ gE) (hE : ∀ s ∈ E, s.st = 1 ∨ s.st = -1) (hl : E.length ≤ 4398046511104) (hm : m ≤ 4398046511104) (hk : k < E.length) (hi : ixR R E[k].y1 < 4398046511104) :
  Calls Tryz.prog 111 #[.slice (some ⟨gE, 0, none⟩) m m, .int .i64 (ixR R E[k].y1 : Int), .int .i64 E[k].st] wr fun e w' => e = .returned (.tuple #[]) ∧ CtAt R E gB gE m (k + 1) wb w' := by
 obtain ⟨c1, c2, h1, h2, o1, o2, h3, h4⟩ := h.c
 have hst := hE E[k] (List.getElem_mem hk)
 refine (add_any wb.heap.size gE c2 _ (ixR R E[k].y1) m E[k].st wr o2 h2.symm hm h4 (pre_bd _ hE hl k) (by omega) hi).mono ?_
 rintro e w' ⟨rfl, c', hc1, hc2, hc3, hg⟩
 refine ⟨rfl, ⟨c1, c', h1, by rw [hc1, h2], own_far o1 hne hg, hc2 _ o2, h3, ?_⟩, h.bel.grown hg h.bel.size (fun k e => by cases e; exact hB)⟩
 rw [pre_step _ E k hk]
 exact hc3
theorem CtAt.lt {R : List Int} {E : List Sd} {gB gE m k : Nat} {wb wr : World} (h : CtAt R E gB gE m k wb wr) : gB < wr.heap.size ∧ gE < wr.heap.size := by
 obtain ⟨c1, c2, h1, h2, o1, o2, h3, h4⟩ := h.c
 exact ⟨(o1.lt gB rfl).2, (o2.lt gE rfl).2⟩
theorem CtMd.go {R : List Int} {E : List Sd} {gB gE m k : Nat} {wb wr w' : World} (h : CtMd R E gB gE m k wb wr) (hb : Below wr.heap.size wr w') : CtMd R E gB gE m k wb w' := by
 obtain ⟨c1, c2, h1, h2, o1, o2, h3, h4⟩ := h.c
 exact ⟨⟨c1, c2, h1, h2, own_go o1 hb, own_go o2 hb, h3, h4⟩, h.bel.trans (hb.mono h.bel.size)⟩
end Go.Proofs.YtngddecpfhlilaaGreat
namespace Go.Proofs.YtngddecpfhlilaaGreat
open Go.RowKit
def Src (w : World) (v2 : Value) (m : Nat) (news : List Value) : Prop := (v2 = .slice none 0 0 ∧ m = 0 ∧ news = []) ∨ ∃ ad c, v2 = .slice (some ad) m c ∧ news.length = m * 4 ∧ (∀ j u, news[j]? = some u → w.cell? (ad.add j) = some u) ∧ ∀ u ∈ news, u.oneCell' = true
theorem wpList_append_src {P : Program} {w : World} {ops : Array Oper} {rest : List Oper} {o : Oper} {a : Act} {Q : Exit → Act → World → Prop} (hgd : o.guard = none) (s x : Operand) (t : TypeId)
  (ho : o.op = .call { callee := .builtin .append, args := #[s, x], argTypes := #[t, t] })
  (base : Nat) (e : TypeId) (i : TypeInfo) (z : Value) (bytes : Nat) (ht : P.underlying t = some (.slice e)) (hi : P.info? e = some i) (hz : i.zero = some z)
  (hsize : i.size = 4) (hby : i.bytes = bytes) (hzs : z.cells.size = 4)
  (v : Value) (n : Nat) (xs : List Value) (hs : a.eval s = v) (hown : w.ownsRow base e 4 v n xs)
  (v2 : Value) (m : Nat) (news : List Value) (hx : a.eval x = v2) (hsrc : Src w v2 m news)
  (h63 : n + m ≤ maxLen) (hbytes : (n + m) * bytes ≤ 140737488355328) (hbase : base ≤ w.heap.size)
  (h : ∀ v' w', w'.ownsRow base e 4 v' (n + m) (xs ++ news) → w.grownBy w' v.ownBlock → wpList P ops Q rest (a.put o.dst v') w') : wpList P ops Q (o :: rest) a w := by
 rcases hsrc with ⟨h1, rfl, rfl⟩ | ⟨ad, c, h1, h2, h3, h4⟩
 ·exact wpList_append_own_none hgd s x t ho base e i 4 ht hi v n xs hs hown (hx.trans h1) (h v w (by rw [List.append_nil]; exact hown) (World.grownBy.refl _ _))
 ·exact wpList_append_own w hgd s x t ho base e i z 4 bytes ht hi hz hsize hby hzs (by decide) v n xs hs hown ad m c news (hx.trans h1) h2 h3 h4 h63 hbytes hbase (fun v' w' a b _ => h v' w' a b)
theorem rcells_back (l : List Rc) (t : Nat) (u : Value) (h : (rcells l)[t]? = some u) : t / 4 < l.length := by
 have := (List.getElem?_eq_some_iff.1 h).1
 rw [rcells_len] at this
 omega
theorem src_of {w : World} {A : Option Addr} {cap : Nat} {l : List Rc} (h : RIn w A cap l) (hn : A = none → cap = 0) : Src w (.slice A l.length cap) l.length (rcells l) := by
 cases A with
 | none =>
  have h1 := hn rfl
  have h2 := h.room
  have h3 : l.length = 0 := by omega
  obtain rfl := List.length_eq_zero_iff.1 h3
  exact Or.inl ⟨by rw [h1]; rfl, rfl, rfl⟩
 | some ad =>
  refine Or.inr ⟨ad, cap, rfl, rcells_len l, fun j u hu => ?_, rcells_one l⟩
  have hj := rcells_back l j u hu
  obtain ⟨b, o, e, hb, hc⟩ := h.row (by omega)
  injection e with e
  subst e
  obtain ⟨c0, c1, c2, c3⟩ := hc _ hj
  obtain ⟨d0, d1, d2, d3⟩ := rcells_at l _ hj
  have hadd : (⟨b, o, none⟩ : Addr).add j = ⟨b, o + j, none⟩ := by unfold Addr.add; split <;> simp_all
  rw [hadd]
  have hm : j % 4 = 0 ∨ j % 4 = 1 ∨ j % 4 = 2 ∨ j % 4 = 3 := by omega
  rcases hm with hm | hm | hm | hm
  ·rw [show j = j / 4 * 4 by omega] at hu ⊢
   rw [d0] at hu; rw [c0]; exact hu
  ·rw [show j = j / 4 * 4 + 1 by omega] at hu ⊢
   rw [d1] at hu; rw [← Nat.add_assoc, c1]; exact hu
  ·rw [show j = j / 4 * 4 + 2 by omega] at hu ⊢
   rw [d2] at hu; rw [← Nat.add_assoc, c2]; exact hu
  ·rw [show j = j / 4 * 4 + 3 by omega] at hu ⊢
   rw [d3] at hu; rw [← Nat.add_assoc, c3]; exact hu
structure FS (F : List Rc) (S : Int → Int → Prop) : Prop where
 form : IsForm F
 cells : ∀ x y, HasL F x y ↔ S x y
theorem FS.eq {F G : List Rc} {S S' : Int → Int → Prop} (h : FS F S) (k : FS G S') (e : ∀ x y, S x y ↔ S' x y) : F = G := form_eq h.form k.form (fun x y => by rw [h.cells, k.cells, e])
theorem FS.ok {F : List Rc} {S : Int → Int → Prop} (h : FS F S) : ∀ r ∈ F, ROk r := form_ok h.form
theorem cap_le {F : List Rc} (h : F.length ≤ 200) : capR F = (F, 0) := if_pos h
end Go.Proofs.YtngddecpfhlilaaGreat
namespace Go.Proofs.YtngddecpfhlilaaGreat
end Go.Proofs.YtngddecpfhlilaaGreat
namespace Go.Proofs.YtngddecpfhlilaaGreat
open Go.RowKit
end Go.Proofs.YtngddecpfhlilaaGreat
namespace Go.Proofs.YtngddecpfhlilaaGreat
open Go.RowKit
theorem rok_in {r : Rc} (h : ROk r) : InR r := by
 obtain ⟨⟨a, b, c⟩, d, e, f⟩ := h
 refine ⟨?_, ?_, ?_, ?_⟩ <;> constructor <;> omega
set_option maxHeartbeats 4000000 in
theorem ghasC_any (r : Rc) (x y : Int) (b1 b2 : Nat) (w : World) (hr : ROk r) (h1 : w.cell? ⟨b1, 0, none⟩ = some (.int .i64 x)) (h2 : w.cell? ⟨b2, 0, none⟩ = some (.int .i64 y)) (z1 : b1 < w.heap.size) (z2 : b2 < w.heap.size) :
  Calls Tryz.prog 68 #[.agg #[.int .i64 r.X0, .int .i64 r.Y0, .int .i64 r.X1, .int .i64 r.Y1], .pointer (some ⟨b1, 0, none⟩), .pointer (some ⟨b2, 0, none⟩)] w (BlIs (decide (HasR r x y)) w) := by
 have HH := Lib.hid (fun w' => thas_any r x y (rok_in hr) w')
 clear hr
 generalize decide (HasR r x y) = d at *
 go_enter Tryz.func68, Tryz.ntmps68
 go_wp2_with (go_at_call 69; refine (HH.out _).mono ?_; rintro e w1 ⟨rfl, hb⟩; obtain ⟨hc, hf⟩ := bcell hb; have hz := hb.size; (try simp at hz); have hz0 : w.heap.size < w1.heap.size := (by omega); have HBl := Lib.hid hb; clear hb)
 go_ret
 exact ⟨rfl, by (repeat' first | exact Below.refl _ _ | assumption | (apply below_drewN) | (refine Below.setCell ?_ (by (try simp); (try omega)) _) | (refine Below.alloc ?_ (by (try simp); (try omega)) _) | (refine Below.trans ?_ (Below.mono (Hid.out (by assumption)) (by (try simp); (try omega)))))⟩
def IdxIs (l : List Rc) (x y : Int) (w : World) (e : Ending) (w' : World) : Prop := ∃ i : Int, e = .returned (.int .i64 i) ∧ (0 ≤ i ↔ HasL l x y) ∧ Below w.heap.size w w'
set_option maxHeartbeats 8000000 in
theorem gidx_any (A : Option Addr) (cap : Nat) (l : List Rc) (x y : Int) (b1 b2 : Nat) (w : World) (hl : RIn w A cap l) (hok : ∀ r ∈ l, ROk r) (h1 : w.cell? ⟨b1, 0, none⟩ = some (.int .i64 x)) (h2 : w.cell? ⟨b2, 0, none⟩ = some (.int .i64 y)) (z1 : b1 < w.heap.size) (z2 : b2 < w.heap.size) :
  Calls Tryz.prog 126 #[.slice A l.length cap, .func (.func 68) #[] #[.pointer (some ⟨b1, 0, none⟩), .pointer (some ⟨b2, 0, none⟩)]] w (IdxIs l x y w) := by
 have HL := Lib.hid hl; clear hl
 have HOK := Lib.hid hok; clear hok
 have HC := Lib.hid (fun (w' : World) (hb : Below w.heap.size w w') (r : Rc) (hr : ROk r) => ghasC_any r x y b1 b2 w' hr ((hb.cell z1).trans h1) ((hb.cell z2).trans h2) (Nat.lt_of_lt_of_le z1 hb.size) (Nat.lt_of_lt_of_le z2 hb.size))
 clear h1 h2 z1 z2
 have HB0 := Lib.hid (Below.refl w.heap.size w)
 go_enter Tryz.func126, Tryz.ntmps126
 go_wp2
 go_loopw [8] (fun i wr => ∃ (k : Nat), k ≤ l.length ∧ i = .int .i64 k ∧ Hid (Below w.heap.size w wr) ∧ ∀ j (h : j < l.length), j < k → ¬ HasR l[j] x y) (fun i _ => l.length - (intOf i).toNat)
 case atStart => exact ⟨0, Nat.zero_le _, rfl, HB0, fun j h hj => absurd hj (Nat.not_lt_zero _)⟩
 case round =>
  clear HB0
  obtain ⟨k, hk, rfl, HB, ht⟩ := hrel
  have HT := Lib.hid ht; clear ht
  by_cases hlt : k < l.length
  ·obtain ⟨ba, oa, rfl, hba, hva⟩ := HL.out.row (by omega)
   obtain ⟨x0, x1, x2, x3⟩ := hva k hlt
   have eu : ∃ u, u = l[k] := ⟨_, rfl⟩
   obtain ⟨u, hu⟩ := eu
   have hr : ROk u := hu ▸ HOK.out _ (List.getElem_mem hlt)
   rw [← hu] at x0 x1 x2 x3
   have HU := Lib.hid hu; clear hu
   have HC2 := Lib.hid (fun w' hb => HC.out w' hb u hr); clear hr
   have i0 : (0 : Int) ≤ (k : Int) := by omega
   have i1 : (k : Int) < (l.length : Int) := by omega
   clear hva
   have wc := fun o => HB.out.cell (p := ⟨ba, o, none⟩) hba
   have x0 := (wc _).trans x0; have x1 := (wc _).trans x1; have x2 := (wc _).trans x2; have x3 := (wc _).trans x3
   clear wc
   have hbs := HB.out.size
   have hlen := HL.out.len
   by_cases c : HasR u x y
   ·have HY : Hid (0 ≤ (k : Int) ↔ HasL l x y) := Lib.hid ⟨fun _ => ⟨u, by rw [HU.out]; exact List.getElem_mem hlt, c⟩, fun _ => by omega⟩
    have HD := Lib.hid (decide_eq_true c); clear c
    go_wp2_with (go_at_call 68; refine (HC2.out _ (by (repeat' first | exact Below.refl _ _ | assumption | (apply below_drewN) | (refine Below.setCell ?_ (by (try simp); (try omega)) _) | (refine Below.alloc ?_ (by (try simp); (try omega)) _) | (refine Below.trans ?_ (Below.mono (Hid.out (by assumption)) (by (try simp); (try omega))))))).mono ?_; rw [HD.out]; rintro e w1 ⟨rfl, hb⟩; have HBl := Lib.hid hb; clear hb)
    go_ret
    exact ⟨_, rfl, HY.out, by (repeat' first | exact Below.refl _ _ | assumption | (apply below_drewN) | (refine Below.setCell ?_ (by (try simp); (try omega)) _) | (refine Below.alloc ?_ (by (try simp); (try omega)) _) | (refine Below.trans ?_ (Below.mono (Hid.out (by assumption)) (by (try simp); (try omega)))))⟩
   ·have HN : Hid (∀ j (h : j < l.length), j < k + 1 → ¬ HasR l[j] x y) := Lib.hid (fun j h hj => by
     by_cases e : j < k
     ·exact HT.out j h e
     ·obtain rfl : j = k := by omega
      rw [← HU.out]; exact c)
    have HD := Lib.hid (decide_eq_false c); clear c
    go_wp2_with (go_at_call 68; refine (HC2.out _ (by (repeat' first | exact Below.refl _ _ | assumption | (apply below_drewN) | (refine Below.setCell ?_ (by (try simp); (try omega)) _) | (refine Below.alloc ?_ (by (try simp); (try omega)) _) | (refine Below.trans ?_ (Below.mono (Hid.out (by assumption)) (by (try simp); (try omega))))))).mono ?_; rw [HD.out]; rintro e w1 ⟨rfl, hb⟩; have HBl := Lib.hid hb; clear hb)
    go_roundw
    case rel => exact ⟨k + 1, by omega, by go_num, Lib.hid (by (repeat' first | exact Below.refl _ _ | assumption | (apply below_drewN) | (refine Below.setCell ?_ (by (try simp); (try omega)) _) | (refine Below.alloc ?_ (by (try simp); (try omega)) _) | (refine Below.trans ?_ (Below.mono (Hid.out (by assumption)) (by (try simp); (try omega)))))), HN.out⟩
    case measure => simp [intOf]; omega
  ·obtain rfl : k = l.length := by omega
   have HY : Hid (0 ≤ (-1 : Int) ↔ HasL l x y) := Lib.hid ⟨fun h => absurd h (by decide), fun ⟨r, hr, h⟩ => by
    obtain ⟨j, hj, rfl⟩ := List.mem_iff_getElem.1 hr
    exact absurd h (HT.out j hj hj)⟩
   go_wp2
   go_ret
   exact ⟨_, rfl, HY.out, HB.out⟩
set_option maxHeartbeats 8000000 in
theorem gcf_any (A : Option Addr) (cap : Nat) (l : List Rc) (x y : Int) (b1 b2 : Nat) (w : World) (hl : RIn w A cap l) (hok : ∀ r ∈ l, ROk r) (h1 : w.cell? ⟨b1, 0, none⟩ = some (.int .i64 x)) (h2 : w.cell? ⟨b2, 0, none⟩ = some (.int .i64 y)) (z1 : b1 < w.heap.size) (z2 : b2 < w.heap.size) :
  Calls Tryz.prog 67 #[.slice A l.length cap, .func (.func 68) #[] #[.pointer (some ⟨b1, 0, none⟩), .pointer (some ⟨b2, 0, none⟩)]] w (BlIs (hasB l x y) w) := by
 have HI := Lib.hid (gidx_any A cap l x y b1 b2 w hl hok h1 h2 z1 z2)
 clear hl hok h1 h2 z1 z2
 go_enter Tryz.func67, Tryz.ntmps67
 go_wp2_with (go_at_call 126; refine HI.out.mono ?_; rintro e w1 ⟨i, rfl, hi, hb⟩; have HBl := Lib.hid hb; clear hb)
 go_ret
 refine ⟨?_, by (repeat' first | exact Below.refl _ _ | assumption | (apply below_drewN) | (refine Below.setCell ?_ (by (try simp); (try omega)) _) | (refine Below.alloc ?_ (by (try simp); (try omega)) _) | (refine Below.trans ?_ (Below.mono (Hid.out (by assumption)) (by (try simp); (try omega)))))⟩
 have : decide (0 ≤ i) = hasB l x y := by
  rw [Bool.eq_iff_iff, hasB_iff, decide_eq_true_iff]; exact hi
 rw [← this]; rfl
noncomputable def hasRg (l : List Rc) (x y : Int) : Bool := @decide (RegP l) (Classical.propDecidable _) && hasB l x y
end Go.Proofs.YtngddecpfhlilaaGreat
namespace Go.Proofs.YtngddecpfhlilaaGreat
open Go.RowKit
theorem bright_yes {A : Option Addr} {cap : Nat} {S : List Sl} {w : World} (h : SIn w A cap S) (hs : SolP S) : Calls Tryz.prog 91 #[.slice A S.length cap] w (BlIs true w) :=
 (bright_any A cap S w h).mono fun e w' ⟨b, hb, h'⟩ => by obtain rfl := hb.2 hs; exact h'
theorem bright_no {A : Option Addr} {cap : Nat} {S : List Sl} {w : World} (h : SIn w A cap S) (hs : ¬ SolP S) : Calls Tryz.prog 91 #[.slice A S.length cap] w (BlIs false w) :=
 (bright_any A cap S w h).mono fun e w' ⟨b, hb, h'⟩ => by
  cases b with
  | false => exact h'
  | true => exact absurd (hb.1 rfl) hs
def Vx (p : Nat) (u : Sl) (A : Option Addr) (c : Nat) (w0 w : World) : Prop := w.cell? ⟨p, 0, none⟩ = some (.int .i64 u.z0) ∧ w.cell? ⟨p, 1, none⟩ = some (.int .i64 u.z1) ∧ w.cell? ⟨p, 2, none⟩ = some (.slice A u.ar.length c) ∧ p < w.heap.size ∧ Hid (Below w0.heap.size w0 w)
theorem Vx.go {p : Nat} {u : Sl} {A : Option Addr} {c : Nat} {w0 w w' : World} (h : Vx p u A c w0 w) (hb : Below w.heap.size w w') : Vx p u A c w0 w' := by
 obtain ⟨h0, h1, h2, h6, h8⟩ := h
 have cp := fun i => hb.cell (p := ⟨p, i, none⟩) h6
 exact ⟨(cp _).trans h0, (cp _).trans h1, (cp _).trans h2, Nat.lt_of_lt_of_le h6 hb.size, Lib.hid (h8.out.trans (hb.mono h8.out.size))⟩
theorem Vx.drewN {p : Nat} {u : Sl} {A : Option Addr} {c : Nat} {w0 w : World} (h : Vx p u A c w0 w) (n : Nat) : Vx p u A c w0 (w.drewN n) := h.go (below_drewN (Below.refl _ _) n)
noncomputable def volG (S : List Sl) : Int := @ite _ (SolP S) (Classical.propDecidable _) (volS S) 0
theorem sumN_le {n : Nat} {f : Nat → Nat} {b : Nat} (h : ∀ i, i < n → f i ≤ b) : sumN n f ≤ n * b := by
 induction n with
 | zero => simp [sumN]
 | succ n ih =>
  have h1 := ih (fun i hi => h i (by omega))
  have h2 := h n (by omega)
  have e : sumN (n + 1) f = sumN n f + f n := rfl
  rw [e, Nat.add_mul]; omega
theorem form_grid {l : List Rc} (h : IsForm l) : areaL l ≤ 1099511627776 := by
 rw [form_area h]
 have : cntC 1048576 (hasD l) ≤ 1048576 * 1048576 := sumN_le (fun i _ => by
  have := sumN_le (n := 1048576) (b := 1) (f := fun y : Nat => if hasD l (i : Int) (y : Int) = true then 1 else 0) (fun j _ => by split <;> omega)
  omega)
 omega
end Go.Proofs.YtngddecpfhlilaaGreat
