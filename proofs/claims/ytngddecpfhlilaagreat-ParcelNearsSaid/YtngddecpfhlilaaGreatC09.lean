/-
  Contracts of the program's layer 6 (8): the two sorts that form calls.
  Contracts of the program's layer 6 (9): what form builds: the sides and the edges of some lists; the sorts of whatever length.
  Plain mathematics of solids (layer 9), 2: boxes, the solid of a list of boxes, the operations, sets of cubes, the volume. No program in this text.
  Lots (layer 13): the operations as functions, with their codes. No program in this text.
  The form of rectangles apart by the parity of their corners (layer 13): plain mathematics. No program in this text.
-/
import Derived.Test.YtngddecpfhlilaaGreatC08
import Derived.Test.YtngddecpfhlilaaGreatWs
import Derived.Test.YtngddecpfhlilaaGreatC00
import Derived.Test.YtngddecpfhlilaaGreatC07
import Derived.Test.YtngddecpfhlilaaGreatC05
set_option linter.unusedVariables false
set_option maxRecDepth 100000
namespace Go.Proofs.YtngddecpfhlilaaGreat
open Go.RowKit Go.Shelf Go.Lib Go.Sort
theorem grownBy_sort {w : World} {n g : Nat} {f : Array Value → Array Value} {os : Array Obj} : w.grownBy (grow (mapBlock (Sort.ahead w n) g f) os) (some g) := by
 refine ⟨rfl, rfl, rfl, by simp [grow, mapBlock, Sort.ahead], fun k hk hne => ?_⟩
 rw [heap_grow_old _ _ (by simp [mapBlock, Sort.ahead]; exact hk)]
 have : k ≠ g := fun e => hne (by rw [e])
 simp [mapBlock, Sort.ahead, Array.getElem?_modify]; intro e; exact absurd e.symm this
theorem sort_cell {w : World} {n g : Nat} {d0 d : Array Int} {os : Array Obj} (h0 : Holds (Value.int .i64) w g 0 d0) (hs : d.size = d0.size) (hg : g < w.heap.size) (j : Nat) (hj : j < d.size) : (grow (putRow (Value.int .i64) (Sort.ahead w n) g 0 d) os).cell? ⟨g, j, none⟩ = some (.int .i64 d[j]!) := by
 rw [cell?_grow _ _ _ (by simpa using hg)]
 have := cell?_putRow (Value.int .i64) (Sort.ahead w n) g 0 d0 d h0 hs j hj
 rwa [Nat.zero_add] at this
theorem gsort_any (B g cap : Nat) (l : List Int) (w : World) (h : w.ownsRow B 3 1 (.slice (some ⟨g, 0, none⟩) l.length cap) l.length (icells l)) (hl : l.length ≤ 1099511627776) :
  Calls Tryz.prog 118 #[.slice (some ⟨g, 0, none⟩) l.length cap] w fun e w' => e = .returned (.tuple #[]) ∧ ∃ S : List Int, S.Perm l ∧ SortN S ∧ (∀ j (h : j < S.length), w'.cell? ⟨g, j, none⟩ = some (.int .i64 S[j])) ∧ w.grownBy w' (some g) := by
 have hg : g < w.heap.size := (h.lt g rfl).2
 have hH : Holds (Value.int .i64) w g 0 l.toArray := fun j hj => by
  have hj' : j < l.length := by simpa using hj
  refine ⟨?_, h.frozenAt _⟩
  rw [Nat.zero_add, h.cellAt j (by omega)]
  simp [icells, hj']
 refine (Go.Proofs.Tryz.slices_Sort_int g 0 cap l w hH hg (by omega)).mono ?_
 rintro e w' ⟨rfl, n, os, rfl⟩
 have hp := List.mergeSort_perm l (fun x y => decide (x ≤ y))
 refine ⟨rfl, l.mergeSort fun x y => decide (x ≤ y), hp, ?_, fun j hj => ?_, grownBy_sort⟩
 ·have hs := List.pairwise_mergeSort (le := fun x y : Int => decide (x ≤ y)) (fun a b c h1 h2 => by simp at *; omega) (fun a b => by simp; omega) l
  intro i j hi hj hij
  rcases Nat.lt_or_ge i j with hlt | hge
  ·have := List.pairwise_iff_getElem.1 hs i j hi hj hlt
   simpa using this
  ·obtain rfl : i = j := by omega
   exact Int.le_refl _
 ·rw [sort_cell hH (by simp [hp.length_eq]) hg j (by simpa using hj)]
  rw [getElem!_pos _ j (by simpa using hj)]; simp
instance : Inhabited Ed := ⟨⟨0, 0, 0, 0, 0⟩⟩
def encE (e : Ed) : List Value := [.int .i64 e.x0, .int .i64 e.x1, .int .i64 e.y, .int .i64 (e.l : Int), .int .i64 e.s]
def ecells (E : List Ed) : List Value := E.flatMap encE
theorem ecells_append (E F : List Ed) : ecells (E ++ F) = ecells E ++ ecells F := by simp [ecells]
theorem ecells_at : ∀ (E : List Ed) (t : Nat), t < E.length * 5 → (ecells E)[t]? = some ((encE E[t / 5]!)[t % 5]!) := by
 intro E
 induction E with
 | nil => intro t h; simp at h
 | cons e E ih =>
  intro t h
  match t with
  | 0 => rfl
  | 1 => rfl
  | 2 => rfl
  | 3 => rfl
  | 4 => rfl
  | t + 5 =>
   have h' : t < E.length * 5 := by simp at h; omega
   show (ecells E)[t]? = _
   rw [ih t h', show (t + 5) / 5 = t / 5 + 1 by omega, show (t + 5) % 5 = t % 5 by omega]
   simp
theorem ltE (x y : Ed) : ltOf (fun x y : Ed => Lib.compareInt x.y y.y) x y = decide (x.y < y.y) := by
 unfold ltOf Lib.compareInt
 by_cases h1 : x.y < y.y
 ·simp [h1]
 ·by_cases h2 : y.y < x.y <;> simp [h1, h2]
theorem swoE : SWO (ltOf fun x y : Ed => Lib.compareInt x.y y.y) where
 irrefl x := by rw [ltE]; simp
 trans x y z h1 h2 := by rw [ltE] at *; simp at *; omega
 ntrans x y z h1 h2 := by rw [ltE] at *; simp at *; omega
set_option maxHeartbeats 2000000 in
theorem gformC_any (x y : Ed) (W : World) : Calls Tryz.prog 120 #[.agg #[.int .i64 x.x0, .int .i64 x.x1, .int .i64 x.y, .int .i64 (x.l : Int), .int .i64 x.s], .agg #[.int .i64 y.x0, .int .i64 y.x1, .int .i64 y.y, .int .i64 (y.l : Int), .int .i64 y.s]] W fun e w' => e = .returned (.int .i64 (Lib.compareInt x.y y.y)) ∧ ∃ q os', w' = grow (W.drewN q) os' := by
 have hcon := fun W' => Go.Proofs.Tryz.cmp_Compare_int x.y y.y W'
 generalize Lib.compareInt x.y y.y = r at hcon ⊢
 go_enter Tryz.func120, Tryz.ntmps120
 go_wp2_with (go_at_call 107; refine (hcon _).mono ?_; rintro e w' ⟨rfl, rfl⟩)
 go_ret
 exact ⟨rfl, 0, _, by rw [alloc_eq_grow, alloc_eq_grow, grow_grow]; rfl⟩
theorem gsortf_any (B g cap : Nat) (E : List Ed) (w : World) (h : w.ownsRow B 130 5 (.slice (some ⟨g, 0, none⟩) E.length cap) E.length (ecells E)) (hl : E.length ≤ 1099511627776) :
  Calls Tryz.prog 119 #[.slice (some ⟨g, 0, none⟩) E.length cap, .func (.func 120) #[] #[]] w fun e w' => e = .returned (.tuple #[]) ∧ ∃ E' : List Ed, E.Perm E' ∧ SortE E' ∧ (∀ j (h : j < E'.length), w'.cell? ⟨g, j * 5, none⟩ = some (.int .i64 E'[j].x0) ∧ w'.cell? ⟨g, j * 5 + 1, none⟩ = some (.int .i64 E'[j].x1) ∧ w'.cell? ⟨g, j * 5 + 2, none⟩ = some (.int .i64 E'[j].y) ∧ w'.cell? ⟨g, j * 5 + 3, none⟩ = some (.int .i64 (E'[j].l : Int)) ∧ w'.cell? ⟨g, j * 5 + 4, none⟩ = some (.int .i64 E'[j].s)) ∧ w.grownBy w' (some g) := by
 have hg : g < w.heap.size := (h.lt g rfl).2
 have eg : ∀ args w, (callFunc 120 args).run Tryz.prog w = .ok (.enter 120 args) w := enters_of Tryz.func120 (by kernel_rfl) rfl
 have hH : HoldsK encE 5 w g 0 E.toArray := fun j hj => by
  have hj' : j < E.length * 5 := by simpa using hj
  refine ⟨?_, h.frozenAt _⟩
  rw [Nat.zero_add, h.cellAt j hj', ecells_at E j hj', get_flatK _ _ _ _ (by simpa using hj')]
  simp [id]
 have hcmp : CmpLays Tryz.prog 120 #[] encE 5 (fun x y : Ed => Lib.compareInt x.y y.y) g 0 E.toArray.size w := fun _ _ _ _ x y => gformC_any x y _
 have hcon := AnyQ.slices_SortFunc Go.Proofs.Tryz.laysSlF06_f119 5 Tryz.isAgg130 Tryz.sizeOf130 encE (fun _ => rfl) (fun x v hv => by simp [encE] at hv; rcases hv with rfl | rfl | rfl | rfl | rfl <;> rfl) (fun x y : Ed => Lib.compareInt x.y y.y) swoE 120 #[] g 0 cap E.toArray w eg hcmp hH hg (by simp; omega)
 change Calls Tryz.prog 119 _ _ _ at hcon
 rw [show E.toArray.size = E.length from by simp] at hcon
 refine hcon.mono ?_
 rintro e w' ⟨rfl, d', n, os, hp, hs, rfl⟩
 obtain ⟨p1, _, p3⟩ := hp
 have hlen : d'.size = E.length := by simpa using p1
 have e1 : (d'.extract 0 E.length).toList = d'.toList := by rw [← hlen]; simp
 have e2 : (E.toArray.extract 0 E.length).toList = E := by simp
 rw [e1, e2] at p3
 have hHold : HoldsK encE 5 (sortWorldK encE 5 w g 0 n d' os) g 0 d' := holdsK_grow _ _ _ _ _ _ _ (by simp [putRowK]; exact hg) (holdsK_putRowK _ _ _ _ _ _ _ (holdsK_ahead _ _ _ _ _ _ _ hH) (by simp [hlen]))
 refine ⟨rfl, d'.toList, p3.symm, ?_, fun j hj => ?_, grownBy_sort⟩
 ·intro i j hi hj hij
  simp only [Array.length_toList] at hi hj
  rcases Nat.lt_or_ge i j with hlt | hge
  ·have := hs i j (Nat.zero_le _) hlt (by omega)
   rw [ltE, getElem!_pos _ j hj, getElem!_pos _ i hi] at this
   simp only [decide_eq_false_iff_not, Int.not_lt] at this
   simpa using this
  ·obtain rfl : i = j := by omega
   exact Int.le_refl _
 ·simp only [Array.length_toList] at hj
  have c := fun i (hi : i < 5) => (hHold (j * 5 + i) (by simp; omega)).1
  have f := fun i (hi : i < 5) => get_flatK encE 5 d' (j * 5 + i) (by omega)
  have d := fun i (hi : i < 5) => show (j * 5 + i) / 5 = j ∧ (j * 5 + i) % 5 = i by omega
  have key : ∀ i, i < 5 → (sortWorldK encE 5 w g 0 n d' os).cell? ⟨g, j * 5 + i, none⟩ = some ((encE d'[j])[i]!) := fun i hi => by
   have := c i hi
   rw [f i hi, (d i hi).1, (d i hi).2, Nat.zero_add, getElem!_pos d' j hj] at this
   exact this
  simp only [Array.getElem_toList]
  exact ⟨key 0 (by omega), key 1 (by omega), key 2 (by omega), key 3 (by omega), key 4 (by omega)⟩
end Go.Proofs.YtngddecpfhlilaaGreat
namespace Go.Proofs.YtngddecpfhlilaaGreat
open Go.RowKit
theorem icells_append (l m : List Int) : icells (l ++ m) = icells l ++ icells m := by simp [icells]
theorem own_apart {w : World} {B B' e e' s s' n n' : Nat} {v v' : Value} {xs xs' : List Value} (h : w.ownsRow B e s v n xs) (h' : w.ownsRow B' e' s' v' n' xs') (hne : e ≠ e') : ∀ g, v.ownBlock = some g → v'.ownBlock ≠ some g := by
 intro g hg hg'
 obtain ⟨_, h⟩ := h
 obtain ⟨_, h'⟩ := h'
 rcases h with ⟨rfl, _⟩ | ⟨g1, cap, cur, rfl, _, hc, _⟩
 ·simp [Value.ownBlock] at hg
 ·rcases h' with ⟨rfl, _⟩ | ⟨g2, cap2, cur2, rfl, _, hc2, _⟩
  ·simp [Value.ownBlock] at hg'
  ·simp only [Value.ownBlock, Option.some.injEq] at hg hg'
   subst hg; subst hg'
   rw [hc] at hc2
   simp only [Option.some.injEq, Obj.cells.injEq] at hc2
   exact hne hc2.2.1
theorem own_kept {w w' : World} {B B' e e' s s' n n' : Nat} {v v' : Value} {xs xs' : List Value} (h : w.ownsRow B e s v n xs) (h' : w.ownsRow B' e' s' v' n' xs') (hne : e' ≠ e) (hg : w.grownBy w' v.ownBlock) : w'.ownsRow B' e' s' v' n' xs' :=
 own_stays h' (fun g hgb => hg.block g (h'.lt g hgb).2 (fun e => own_apart h' h hne g hgb e.symm))
structure BW (vs ve : Value) (S : List Int) (E : List Ed) (w wr : World) : Prop where
 own1 : wr.ownsRow w.heap.size 3 1 vs S.length (icells S)
 own2 : wr.ownsRow w.heap.size 130 5 ve E.length (ecells E)
 bel : Below w.heap.size w wr
theorem BW.go {vs ve : Value} {S : List Int} {E : List Ed} {w wr w' : World} (h : BW vs ve S E w wr) (hb : Below wr.heap.size wr w') : BW vs ve S E w w' := ⟨own_go h.own1 hb, own_go h.own2 hb, h.bel.trans (hb.mono h.bel.size)⟩
theorem BW.add1 {vs ve vs' : Value} {S S' : List Int} {E : List Ed} {w wr w' : World} (h : BW vs ve S E w wr) (ho : w'.ownsRow w.heap.size 3 1 vs' S'.length (icells S')) (hg : wr.grownBy w' vs.ownBlock) : BW vs' ve S' E w w' :=
 ⟨ho, own_kept h.own1 h.own2 (by decide) hg, Below.grown h.bel hg h.bel.size (fun k hk => (h.own1.lt k hk).1)⟩
theorem BW.add2 {vs ve ve' : Value} {S : List Int} {E E' : List Ed} {w wr w' : World} (h : BW vs ve S E w wr) (ho : w'.ownsRow w.heap.size 130 5 ve' E'.length (ecells E')) (hg : wr.grownBy w' ve.ownBlock) : BW vs ve' S E' w w' :=
 ⟨own_kept h.own2 h.own1 (by decide) hg, ho, Below.grown h.bel hg h.bel.size (fun k hk => (h.own2.lt k hk).1)⟩
def LRow (w : World) (A : Option Addr) (LL : List (List Rc)) : Prop := 0 < LL.length → ∃ b off, A = some ⟨b, off, none⟩ ∧ b < w.heap.size ∧ ∀ j (h : j < LL.length), ∃ Aj cj, w.cell? ⟨b, off + j, none⟩ = some (.slice Aj LL[j].length cj) ∧ RRow w Aj LL[j]
theorem own_ints {w : World} {B : Nat} {v : Value} {l : List Int} (h : w.ownsRow B 3 1 v l.length (icells l)) :
  ∃ A cap, v = .slice A l.length cap ∧ IRow w A l ∧ (0 < l.length → ∃ g, A = some ⟨g, 0, none⟩ ∧ B ≤ g ∧ g < w.heap.size) := by
 obtain ⟨A, cap, rfl, hA⟩ := own_parts h
 refine ⟨A, cap, rfl, fun h0 => ?_, fun h0 => ?_⟩
 ·obtain ⟨g, rfl, hg, hc⟩ := hA h0
  exact ⟨g, 0, rfl, hg, fun j hj => by rw [Nat.zero_add, hc j (by omega)]; simp [icells, hj]⟩
 ·obtain ⟨g, rfl, hg, hc⟩ := hA h0
  exact ⟨g, rfl, (h.lt g rfl).1, hg⟩
def SortIs (v : Value) (l : List Int) (w : World) (e : Ending) (w' : World) : Prop := e = .returned (.tuple #[]) ∧ ∃ S : List Int, S.Perm l ∧ SortN S ∧ (∀ A n c, v = .slice A n c → IRow w' A S) ∧ w.grownBy w' v.ownBlock
theorem gsort_all (B : Nat) (v : Value) (l : List Int) (w : World) (h : w.ownsRow B 3 1 v l.length (icells l)) (hl : l.length ≤ 1099511627776) : Calls Tryz.prog 118 #[v] w (SortIs v l w) := by
 have hh := h
 obtain ⟨A, cap, rfl, _, hA⟩ := own_ints h
 rcases Nat.eq_zero_or_pos l.length with h0 | h0
 ·rw [h0]
  refine (Go.Proofs.Tryz.slices_Sort_int_none A cap w).mono ?_
  rintro e w' ⟨rfl, rfl⟩
  obtain rfl := List.length_eq_zero_iff.1 h0
  exact ⟨rfl, [], List.Perm.refl _, (fun i j hi => by simp at hi), fun A n c _ => IRow.nil _ _, World.grownBy.refl _ _⟩
 ·obtain ⟨g, rfl, hg1, hg2⟩ := hA h0
  refine (gsort_any B g cap l w hh hl).mono ?_
  rintro e w' ⟨rfl, S, h1, h2, h3, h4⟩
  refine ⟨rfl, S, h1, h2, fun A n c e => ?_, h4⟩
  injection e with e1 e2 e3
  subst e1
  exact fun _ => ⟨g, 0, rfl, Nat.lt_of_lt_of_le hg2 h4.size, fun j hj => by rw [Nat.zero_add]; exact h3 j hj⟩
theorem own_eds {w : World} {B : Nat} {v : Value} {l : List Ed} (h : w.ownsRow B 130 5 v l.length (ecells l)) :
  ∃ A cap, v = .slice A l.length cap ∧ (0 < l.length → ∃ g, A = some ⟨g, 0, none⟩ ∧ B ≤ g ∧ g < w.heap.size) := by
 obtain ⟨A, cap, rfl, hA⟩ := own_parts h
 refine ⟨A, cap, rfl, fun h0 => ?_⟩
 obtain ⟨g, rfl, hg, hc⟩ := hA h0
 exact ⟨g, rfl, (h.lt g rfl).1, hg⟩
def SortFIs (v : Value) (E : List Ed) (w : World) (e : Ending) (w' : World) : Prop := e = .returned (.tuple #[]) ∧ ∃ E' : List Ed, E.Perm E' ∧ SortE E' ∧ (∀ A n c, v = .slice A n c → EdRow w' w'.heap.size A E') ∧ w.grownBy w' v.ownBlock
theorem gsortf_all (B : Nat) (v : Value) (E : List Ed) (w : World) (h : w.ownsRow B 130 5 v E.length (ecells E)) (hl : E.length ≤ 1099511627776) : Calls Tryz.prog 119 #[v, .func (.func 120) #[] #[]] w (SortFIs v E w) := by
 have hh := h
 obtain ⟨A, cap, rfl, hA⟩ := own_eds h
 rcases Nat.eq_zero_or_pos E.length with h0 | h0
 ·rw [h0]
  have hc := AnyF.slices_SortFunc_none Go.Proofs.Tryz.laysSlF06_f119 A cap (.func (.func 120) #[] #[]) w
  change Calls Tryz.prog 119 _ _ _ at hc
  refine hc.mono ?_
  rintro e w' ⟨rfl, rfl⟩
  obtain rfl := List.length_eq_zero_iff.1 h0
  exact ⟨rfl, [], List.Perm.refl _, (fun i j hi => by simp at hi), fun A n c _ h => absurd h (by simp), World.grownBy.refl _ _⟩
 ·obtain ⟨g, rfl, hg1, hg2⟩ := hA h0
  refine (gsortf_any B g cap E w hh hl).mono ?_
  rintro e w' ⟨rfl, S, h1, h2, h3, h4⟩
  refine ⟨rfl, S, h1, h2, fun A n c e => ?_, h4⟩
  injection e with e1 e2 e3
  subst e1
  have hg3 : g < w'.heap.size := Nat.lt_of_lt_of_le hg2 h4.size
  exact fun _ => ⟨g, 0, rfl, hg3, hg3, fun j hj => by rw [Nat.zero_add]; exact h3 j hj⟩
theorem asc_len : ∀ {t : List Int} {lo hi : Int}, Asc t → (∀ x ∈ t, lo ≤ x ∧ x ≤ hi) → lo ≤ hi + 1 → (t.length : Int) ≤ hi - lo + 1 := by
 intro t
 induction t with
 | nil => intro lo hi _ _ h; simp; omega
 | cons a t ih =>
  intro lo hi h hx _
  obtain ⟨h1, h2⟩ := hx a List.mem_cons_self
  have := ih (lo := a + 1) (hi := hi) h.tail (fun x hx2 => ⟨by have := h.lt x hx2; omega, (hx x (List.mem_cons_of_mem _ hx2)).2⟩) (by omega)
  simp only [List.length_cons]; omega
theorem twos_le : ∀ t : List Int, (twos t).length * 2 ≤ t.length := by
 intro t
 match t with
 | [] => simp [twos]
 | [x] => simp [twos]
 | x :: y :: t =>
  have := twos_le t
  simp only [twos, List.length_cons]; omega
theorem col_rects_len {c : List Int} (h : ColOk c) (a b : Int) : (rectsOf a b c).length ≤ 1048576 := by
 have h1 := asc_len (lo := 0) (hi := 1048576) h.asc h.gr (by omega)
 have h2 := twos_le c
 have h3 : (rectsOf a b c).length = (twos c).length := by simp [rectsOf]
 omega
theorem irow_kept {w w' : World} {A : Option Addr} {S : List Int} {row : Option Nat} (h : IRow w A S) (hg : w.grownBy w' row) (hne : ∀ g o, A = some ⟨g, o, none⟩ → some g ≠ row) : IRow w' A S := fun h0 => by
 obtain ⟨b, off, rfl, hl, hc⟩ := h h0
 refine ⟨b, off, rfl, Nat.lt_of_lt_of_le hl hg.size, fun j hj => ?_⟩
 have := hg.block b hl (hne b off rfl)
 rw [← hc j hj]
 simp [World.cell?, this]
end Go.Proofs.YtngddecpfhlilaaGreat
namespace Go.Proofs.YtngddecpfhlilaaGreat
structure Bx where
 r : Rc
 z0 : Int
 z1 : Int
def BOk (b : Bx) : Prop := ROk b.r ∧ HOk b.z0 b.z1
instance (b : Bx) : Decidable (BOk b) := by unfold BOk; infer_instance
instance (l : List Bx) : Decidable (∀ b ∈ l, BOk b) := List.decidableBAll (fun b => BOk b) l
def basesB : List Bx → Int → List Rc
 | [], _ => []
 | b :: l, z => if b.z0 ≤ z ∧ z < b.z1 then b.r :: basesB l z else basesB l z
theorem bases_append (l m : List Bx) (z : Int) : basesB (l ++ m) z = basesB l z ++ basesB m z := by
 induction l with
 | nil => rfl
 | cons b l ih =>
  rw [List.cons_append, basesB, basesB, ih]
  split
  ·rw [List.cons_append]
  ·rfl
theorem bases_mem {l : List Bx} {z : Int} {r : Rc} : r ∈ basesB l z ↔ ∃ b ∈ l, b.r = r ∧ b.z0 ≤ z ∧ z < b.z1 := by
 induction l with
 | nil => simp [basesB]
 | cons b l ih =>
  rw [basesB]
  split
  ·next c =>
   rw [List.mem_cons, ih]
   constructor
   ·rintro (rfl | ⟨d, hd, k⟩)
    ·exact ⟨b, List.mem_cons_self, rfl, c⟩
    ·exact ⟨d, List.mem_cons_of_mem _ hd, k⟩
   ·rintro ⟨d, hd, k⟩
    rcases List.mem_cons.1 hd with rfl | hd
    ·exact Or.inl k.1.symm
    ·exact Or.inr ⟨d, hd, k⟩
  ·next c =>
   rw [ih]
   constructor
   ·rintro ⟨d, hd, k⟩; exact ⟨d, List.mem_cons_of_mem _ hd, k⟩
   ·rintro ⟨d, hd, k⟩
    rcases List.mem_cons.1 hd with rfl | hd
    ·exact absurd k.2 c
    ·exact ⟨d, hd, k⟩
theorem bases_len (l : List Bx) (z : Int) : (basesB l z).length ≤ l.length := by
 induction l with
 | nil => exact Nat.le_refl _
 | cons b l ih => rw [basesB]; split <;> simp only [List.length_cons] <;> omega
theorem bases_ok {l : List Bx} (h : ∀ b ∈ l, BOk b) (z : Int) : ∀ r ∈ basesB l z, ROk r := by
 intro r hr
 obtain ⟨b, hb, rfl, _⟩ := bases_mem.1 hr
 exact (h b hb).1
def htB (l : List Bx) : List Int := l.flatMap fun b => [b.z0, b.z1]
theorem htB_mem {l : List Bx} {z : Int} : z ∈ htB l ↔ ∃ b ∈ l, z = b.z0 ∨ z = b.z1 := by simp [htB]
theorem htB_len (l : List Bx) : (htB l).length = 2 * l.length := by
 induction l with
 | nil => rfl
 | cons b l ih => rw [show htB (b :: l) = b.z0 :: b.z1 :: htB l from rfl, List.length_cons, List.length_cons, ih, List.length_cons]; omega
theorem htB_next (l : List Bx) (k : Nat) (h : k < l.length) : htB (l.take (k + 1)) = htB (l.take k) ++ [l[k].z0, l[k].z1] := by
 unfold htB; rw [List.take_succ_eq_append_getElem h, List.flatMap_append]; simp
theorem htB_in {l : List Bx} (h : ∀ b ∈ l, BOk b) : InZ (htB l) := by
 intro z hz
 obtain ⟨b, hb, e⟩ := htB_mem.1 hz
 have := (h b hb).2
 unfold HOk at this
 omega
def secB (l : List Bx) (z : Int) : List Rc := formL (basesB l z)
theorem form_nil : formL [] = [] := by decide
theorem secB_form {l : List Bx} (h : ∀ b ∈ l, BOk b) (z : Int) : IsForm (secB l z) := (formL_is (bases_ok h z)).1
theorem bases_same {l : List Bx} {z z' : Int} (h1 : z ≤ z') (h : ∀ x ∈ htB l, ¬ (z < x ∧ x ≤ z')) : basesB l z = basesB l z' := by
 induction l with
 | nil => rfl
 | cons b l ih =>
  have e : htB (b :: l) = b.z0 :: b.z1 :: htB l := rfl
  rw [e] at h
  have k0 := h b.z0 List.mem_cons_self
  have k1 := h b.z1 (List.mem_cons_of_mem _ List.mem_cons_self)
  have ih := ih (fun x hx => h x (List.mem_cons_of_mem _ (List.mem_cons_of_mem _ hx)))
  rw [basesB, basesB, ih]
  by_cases c : b.z0 ≤ z ∧ z < b.z1
  ·rw [if_pos c, if_pos (by omega)]
  ·rw [if_neg c, if_neg (by omega)]
theorem bases_out {l : List Bx} {z : Int} (h : ∀ b ∈ l, ¬ (b.z0 ≤ z ∧ z < b.z1)) : basesB l z = [] := by
 induction l with
 | nil => rfl
 | cons b l ih =>
  rw [basesB, if_neg (h b List.mem_cons_self)]
  exact ih (fun d hd => h d (List.mem_cons_of_mem _ hd))
theorem chgB (l : List Bx) : Chg (secB l) (htB l) := by
 refine ⟨fun z z' h1 h2 => by unfold secB; rw [bases_same h1 h2], fun z h => ?_, fun z h => ?_⟩
 ·unfold secB
  rw [bases_out (fun b hb => by have := h b.z0 (htB_mem.2 ⟨b, hb, Or.inl rfl⟩); omega), form_nil]
 ·unfold secB
  rw [bases_out (fun b hb => by have := h b.z1 (htB_mem.2 ⟨b, hb, Or.inr rfl⟩); omega), form_nil]
def solB (l : List Bx) : List Sl := solGo (secB l) [] (sortS (htB l))
theorem solB_is {l : List Bx} (h : ∀ b ∈ l, BOk b) : SForm (solB l) ∧ ∀ z, secS (solB l) z = secB l z := by
 obtain ⟨s1, s2⟩ := sortS_is (htB l)
 exact sol_is (secB_form h) s1 (fun x hx => htB_in h x ((s2 x).1 hx)) ((chgB l).of (fun z => (s2 z).symm))
def ofS (l : List Bx) : List Sl × Int := if ∀ b ∈ l, BOk b then (if l.length ≤ 200 then capS (solB l) else ([], 6)) else ([], 1)
structure CS (S : List Sl) (P : Int → Int → Int → Prop) : Prop where
 form : SForm S
 cubes : ∀ x y z, HasL (secS S z) x y ↔ P x y z
theorem CS.eq {S T : List Sl} {P Q : Int → Int → Int → Prop} (h : CS S P) (k : CS T Q) (e : ∀ x y z, P x y z ↔ Q x y z) : S = T :=
 solid_eq h.form k.form (fun z => form_eq (sec_form h.form z) (sec_form k.form z) (fun x y => by rw [h.cubes, k.cubes, e]))
theorem CS.of {S : List Sl} {P Q : Int → Int → Int → Prop} (h : CS S P) (e : ∀ x y z, P x y z ↔ Q x y z) : CS S Q := ⟨h.form, fun x y z => by rw [h.cubes, e]⟩
def volS : List Sl → Int
 | [] => 0
 | s :: S => areaL s.ar * (s.z1 - s.z0) + volS S
end Go.Proofs.YtngddecpfhlilaaGreat
namespace Go.Proofs.YtngddecpfhlilaaGreat
structure Par13 (land : List Lt → Bool) (lot : Lt → Bool) (rgt one : List Rc → Bool) : Prop where
 land : ∀ l, land l = true ↔ Land one l
 lot : ∀ t, lot t = true ↔ LtOk one t
 rgt : ∀ a, rgt a = true → IsForm a ∧ ∀ r ∈ a, ROk r
 one : ∀ a, one a = true → IsForm a ∧ ∀ r ∈ a, ROk r
def mtB (a b : List Rc) : Bool := a.any fun r => b.any fun q => decide (max r.X0 q.X0 < min r.X1 q.X1) && decide (max r.Y0 q.Y0 < min r.Y1 q.Y1)
theorem mtB_iff {a b : List Rc} (ha : ∀ r ∈ a, ROk r) (hb : ∀ r ∈ b, ROk r) : mtB a b = false ↔ Ap13 a b := by
 constructor
 ·rintro h x y ⟨⟨r, hr, h1⟩, q, hq, h2⟩
  have : mtB a b = true := by
   unfold mtB
   rw [List.any_eq_true]
   refine ⟨r, hr, ?_⟩
   rw [List.any_eq_true]
   refine ⟨q, hq, ?_⟩
   obtain ⟨_, a1, a2, a3, a4⟩ := h1
   obtain ⟨_, b1, b2, b3, b4⟩ := h2
   simp only [Bool.and_eq_true, decide_eq_true_eq]
   omega
  rw [this] at h; cases h
 ·intro h
  cases hm : mtB a b with
  | false => rfl
  | true =>
   unfold mtB at hm
   obtain ⟨r, hr, hm⟩ := List.any_eq_true.1 hm
   obtain ⟨q, hq, hm⟩ := List.any_eq_true.1 hm
   simp only [Bool.and_eq_true, decide_eq_true_eq] at hm
   have hr2 := ha r hr
   have hq2 := hb q hq
   exact absurd ⟨⟨r, hr, hr2, by omega, by omega, by omega, by omega⟩, ⟨q, hq, hq2, by omega, by omega, by omega, by omega⟩⟩ (h (max r.X0 q.X0) (max r.Y0 q.Y0))
def takB (l : List Lt) (n : Int) : Bool := l.any fun u => decide (u.id = n) || decide (n ∈ u.fr)
theorem takB_iff (l : List Lt) (n : Int) : takB l n = true ↔ Taken l n := by
 unfold takB Taken
 rw [List.any_eq_true]
 simp
def nB (n : Int) : Bool := decide (1 ≤ n) && decide (n ≤ 1073741824)
theorem nB_iff (n : Int) : nB n = true ↔ numOk n := by unfold nB numOk; simp
section
variable (land : List Lt → Bool) (lot : Lt → Bool) (rgt one : List Rc → Bool)
def addM (l : List Lt) (t : Lt) : List Lt × Int :=
 if (land l && lot t && t.fr.isEmpty) = false then ([], 1)
 else if takB l t.id = true then ([], 5)
 else if (l.any fun u => mtB t.ar u.ar) = true then ([], 11)
 else if 20000 ≤ l.length then ([], 6)
 else (chL [] [t] l, 0)
def splitM (l : List Lt) (k : Int) (cut : List Rc) (a b : Int) : List Lt × Int :=
 if (land l && rgt cut && nB a && nB b && decide (a ≠ b)) = false then ([], 1)
 else match findL l k with
  | none => ([], 4)
  | some t =>
   if (takB l a || takB l b) = true then ([], 5)
   else if formO and t.ar cut = [] ∨ formO andnot t.ar cut = [] then ([], 10)
   else if 200 < (formO and t.ar cut).length ∨ 200 < (formO andnot t.ar cut).length ∨ 20000 ≤ l.length then ([], 6)
   else if (one (formO and t.ar cut) && one (formO andnot t.ar cut)) = false then ([], 12)
   else (chL [k] (splitN t cut a b) l, 0)
def transM (l : List Lt) (k w : Int) : List Lt × Int :=
 if (land l && decide (0 ≤ w) && decide (w ≤ 1073741824)) = false then ([], 1)
 else match findL l k with
  | none => ([], 4)
  | some t => (chL [k] [ownT t w] l, 0)
variable {land lot rgt one}
theorem addM_ok (p : Par13 land lot rgt one) {l : List Lt} {t : Lt} (h : (addM land lot l t).2 = 0) : Land one l ∧ AddOk one t l ∧ (addM land lot l t).1 = chL [] [t] l := by
 unfold addM at h ⊢
 by_cases c1 : (land l && lot t && t.fr.isEmpty) = false
 ·rw [if_pos c1] at h; simp at h
 rw [if_neg c1] at h ⊢
 by_cases c2 : takB l t.id = true
 ·rw [if_pos c2] at h; simp at h
 rw [if_neg c2] at h ⊢
 by_cases c3 : (l.any fun u => mtB t.ar u.ar) = true
 ·rw [if_pos c3] at h; simp at h
 rw [if_neg c3] at h ⊢
 by_cases c4 : 20000 ≤ l.length
 ·rw [if_pos c4] at h; simp at h
 rw [if_neg c4]
 simp only [Bool.not_eq_false, Bool.and_eq_true] at c1
 obtain ⟨⟨d1, d2⟩, d3⟩ := c1
 have hl := (p.land l).1 d1
 have ht := (p.lot t).1 d2
 refine ⟨hl, ⟨ht, by simpa using d3, fun c => c2 ((takB_iff _ _).2 c), fun u hu => ?_, by omega⟩, rfl⟩
 rw [← mtB_iff (p.one _ ht.one).2 (p.one _ (hl.ok u hu).one).2]
 have := c3
 simp only [List.any_eq_true, not_exists, not_and, Bool.not_eq_true] at this
 exact this u hu
theorem splitM_ok (p : Par13 land lot rgt one) {l : List Lt} {k : Int} {cut : List Rc} {a b : Int} (h : (splitM land rgt one l k cut a b).2 = 0) :
  Land one l ∧ ∃ t, t.id = k ∧ SplitOk one t cut a b l ∧ (splitM land rgt one l k cut a b).1 = chL [k] (splitN t cut a b) l := by
 unfold splitM at h ⊢
 by_cases c1 : (land l && rgt cut && nB a && nB b && decide (a ≠ b)) = false
 ·rw [if_pos c1] at h; simp at h
 rw [if_neg c1] at h ⊢
 cases hf : findL l k with
 | none => rw [hf] at h; simp at h
 | some t =>
  rw [hf] at h
  simp only at h ⊢
  by_cases c2 : (takB l a || takB l b) = true
  ·rw [if_pos c2] at h; simp at h
  rw [if_neg c2] at h ⊢
  by_cases c3 : formO and t.ar cut = [] ∨ formO andnot t.ar cut = []
  ·rw [if_pos c3] at h; simp at h
  rw [if_neg c3] at h ⊢
  by_cases c4 : 200 < (formO and t.ar cut).length ∨ 200 < (formO andnot t.ar cut).length ∨ 20000 ≤ l.length
  ·rw [if_pos c4] at h; simp at h
  rw [if_neg c4] at h ⊢
  by_cases c5 : (one (formO and t.ar cut) && one (formO andnot t.ar cut)) = false
  ·rw [if_pos c5] at h; simp at h
  rw [if_neg c5]
  simp only [Bool.not_eq_false, Bool.and_eq_true, decide_eq_true_eq] at c1 c5
  simp only [Bool.or_eq_true, not_or] at c2
  obtain ⟨⟨⟨⟨d1, d2⟩, d3⟩, d4⟩, d5⟩ := c1
  have hl := (p.land l).1 d1
  obtain ⟨m1, m2⟩ := find_mem hf
  exact ⟨hl, t, m2, ⟨m1, (p.one _ (hl.ok t m1).one).2, (p.rgt _ d2).2, (nB_iff _).1 d3, (nB_iff _).1 d4, d5, fun c => c2.1 ((takB_iff _ _).2 c), fun c => c2.2 ((takB_iff _ _).2 c), c5.1, c5.2, by omega⟩, rfl⟩
theorem transM_ok (p : Par13 land lot rgt one) {l : List Lt} {k w : Int} (h : (transM land l k w).2 = 0) :
  Land one l ∧ 0 ≤ w ∧ w ≤ 1073741824 ∧ ∃ t ∈ l, t.id = k ∧ (transM land l k w).1 = chL [k] [ownT t w] l := by
 unfold transM at h ⊢
 by_cases c1 : (land l && decide (0 ≤ w) && decide (w ≤ 1073741824)) = false
 ·rw [if_pos c1] at h; simp at h
 rw [if_neg c1] at h ⊢
 cases hf : findL l k with
 | none => rw [hf] at h; simp at h
 | some t =>
  simp only
  simp only [Bool.not_eq_false, Bool.and_eq_true, decide_eq_true_eq] at c1
  obtain ⟨⟨d1, d2⟩, d3⟩ := c1
  obtain ⟨m1, m2⟩ := find_mem hf
  exact ⟨(p.land l).1 d1, d2, d3, t, m1, m2, rfl⟩
end
end Go.Proofs.YtngddecpfhlilaaGreat
namespace Go.Proofs.YtngddecpfhlilaaGreat
section
variable {α : Type} [DecidableEq α]
def oddStep (left : List α) (v : α) : List α := if left.getLast? = some v then left.dropLast else left ++ [v]
def oddL (l : List α) : List α := l.foldl oddStep []
theorem oddStep_len (left : List α) (v : α) : (oddStep left v).length ≤ left.length + 1 := by
 unfold oddStep; split <;> simp <;> omega
theorem oddFold_len (l : List α) : ∀ left : List α, (l.foldl oddStep left).length ≤ left.length + l.length := by
 induction l with
 | nil => intro left; simp
 | cons v l ih => intro left; rw [List.foldl_cons]; have := ih (oddStep left v); have := oddStep_len left v; simp; omega
theorem oddL_len (l : List α) : (oddL l).length ≤ l.length := by have := oddFold_len l ([] : List α); simpa [oddL] using this
theorem oddL_snoc (l : List α) (v : α) : oddL (l ++ [v]) = oddStep (oddL l) v := by simp [oddL, List.foldl_append]
theorem oddStep_par (q : α → Bool) (left : List α) (v : α) : (oddStep left v).countP q % 2 = (left.countP q + (if q v = true then 1 else 0)) % 2 := by
 unfold oddStep
 split
 ·rename_i h
  have e : left = left.dropLast ++ [v] := by
   obtain ⟨ys, hy⟩ := List.getLast?_eq_some_iff.1 h
   rw [hy, List.dropLast_concat]
  have h2 : left.countP q = left.dropLast.countP q + (if q v = true then 1 else 0) := by
   conv => lhs; rw [e]
   rw [List.countP_append, List.countP_singleton]
  rw [h2]
  split <;> omega
 ·rw [List.countP_append, List.countP_singleton]
theorem oddFold_par (q : α → Bool) (l : List α) : ∀ left : List α, (l.foldl oddStep left).countP q % 2 = (left.countP q + l.countP q) % 2 := by
 induction l with
 | nil => intro left; simp
 | cons v l ih =>
  intro left
  rw [List.foldl_cons, ih, List.countP_cons]
  have := oddStep_par q left v
  omega
theorem oddL_par (q : α → Bool) (l : List α) : (oddL l).countP q % 2 = l.countP q % 2 := by
 have := oddFold_par q l ([] : List α)
 simpa [oddL] using this
theorem oddStep_sub {left : List α} {v x : α} (h : x ∈ oddStep left v) : x = v ∨ x ∈ left := by
 unfold oddStep at h
 split at h
 ·exact .inr (List.dropLast_subset _ h)
 ·rcases List.mem_append.1 h with h | h
  ·exact .inr h
  ·exact .inl (by simpa using h)
theorem oddFold_asc {lt : α → α → Prop} (l : List α) : ∀ left : List α, l.Pairwise (fun a b => a = b ∨ lt a b) → left.Pairwise lt → (∀ a ∈ left, ∀ b ∈ l, a = b ∨ lt a b) → (∀ a b c, lt a b → lt b c → lt a c) → (∀ a, ¬ lt a a) →
  (l.foldl oddStep left).Pairwise lt := by
 induction l with
 | nil => intro left _ h _ _ _; exact h
 | cons v l ih =>
  intro left h1 h2 h3 ht hi
  obtain ⟨h4, h5⟩ := List.pairwise_cons.1 h1
  rw [List.foldl_cons]
  have hs : (oddStep left v).Pairwise lt := by
   unfold oddStep
   split
   ·exact h2.sublist (List.dropLast_sublist _)
   ·rename_i hne
    refine List.pairwise_append.2 ⟨h2, by simp, fun a ha b hb => ?_⟩
    rw [List.mem_singleton] at hb
    subst hb
    rcases h3 a ha b (by simp) with e | e
    ·subst e
     exfalso
     obtain ⟨P, Q, rfl⟩ := List.append_of_mem ha
     cases Q with
     | nil => simp at hne
     | cons c Q =>
      have hlast : (c :: Q).getLast (by simp) ∈ c :: Q := List.getLast_mem _
      have h8 := (List.pairwise_cons.1 (List.pairwise_append.1 h2).2.1).1 _ hlast
      rcases h3 ((c :: Q).getLast (by simp)) (List.mem_append_right _ (List.mem_cons_of_mem _ hlast)) a (by simp) with e | e
      ·apply hne
       rw [List.getLast?_append, List.getLast?_cons_cons, List.getLast?_eq_some_getLast (by simp), e]; rfl
      ·exact hi a (ht _ _ _ h8 e)
    ·exact e
  refine ih _ h5 hs (fun a ha b hb => ?_) ht hi
  rcases oddStep_sub ha with e | ha
  ·rw [e]; exact h4 b hb
  ·exact h3 a ha b (by simp [hb])
theorem oddL_asc {lt : α → α → Prop} {l : List α} (h : l.Pairwise (fun a b => a = b ∨ lt a b)) (ht : ∀ a b c, lt a b → lt b c → lt a c) (hi : ∀ a, ¬ lt a a) : (oddL l).Pairwise lt :=
 oddFold_asc l [] h List.Pairwise.nil (fun a ha => nomatch ha) ht hi
theorem oddL_mem {l : List α} {x : α} (h : x ∈ oddL l) : x ∈ l := by
 have : ∀ (l left : List α), x ∈ l.foldl oddStep left → x ∈ left ∨ x ∈ l := fun l => by
  induction l with
  | nil => intro left h; exact .inl h
  | cons v l ih =>
   intro left h
   rcases ih _ h with h | h
   ·rcases oddStep_sub h with e | h
    ·exact .inr (by simp [e])
    ·exact .inl h
   ·exact .inr (by simp [h])
 rcases this l [] h with h | h
 ·exact nomatch h
 ·exact h
end
def cornersOf (l : List Rc) : List (Int × Int) := l.flatMap fun r => [(r.X0, r.Y0), (r.X0, r.Y1), (r.X1, r.Y0), (r.X1, r.Y1)]
theorem cornersOf_append (l m : List Rc) : cornersOf (l ++ m) = cornersOf l ++ cornersOf m := by simp [cornersOf]
theorem cornersOf_len (l : List Rc) : (cornersOf l).length = l.length * 4 := by
 induction l with
 | nil => rfl
 | cons r l ih => rw [show cornersOf (r :: l) = (r.X0, r.Y0) :: (r.X0, r.Y1) :: (r.X1, r.Y0) :: (r.X1, r.Y1) :: cornersOf l from rfl]; simp only [List.length_cons, ih]; omega
def qB (x y : Int) (p : Int × Int) : Bool := decide (p.1 ≤ x) && decide (p.2 ≤ y)
def yB (y : Int) (p : Int × Int) : Bool := decide (p.2 ≤ y)
theorem corners_par (x y : Int) : ∀ {l : List Rc}, (∀ r ∈ l, ROk r) → (cornersOf l).countP (qB x y) % 2 = (l.filter fun r => decide (HasR r x y)).length % 2
  | [], _ => rfl
  | r :: l, h => by
    have ih := corners_par x y (l := l) (fun u hu => h u (by simp [hu]))
    have hr := h r (by simp)
    rw [show cornersOf (r :: l) = (r.X0, r.Y0) :: (r.X0, r.Y1) :: (r.X1, r.Y0) :: (r.X1, r.Y1) :: cornersOf l from rfl, List.countP_cons, List.countP_cons, List.countP_cons, List.countP_cons, List.filter_cons]
    have e : decide (HasR r x y) = (decide (r.X0 ≤ x) && decide (x < r.X1) && decide (r.Y0 ≤ y) && decide (y < r.Y1)) := by
      unfold HasR; simp [hr, Bool.and_assoc]
    rw [e]
    unfold ROk Span at hr
    simp only [qB]
    by_cases c1 : r.X0 ≤ x <;> by_cases c2 : r.X1 ≤ x <;> by_cases c3 : r.Y0 ≤ y <;> by_cases c4 : r.Y1 ≤ y
    all_goals
      first
        | omega
        | (have d2 := c2; have d4 := c4
           rw [← Int.not_lt] at d2 d4
           simp only [c1, c2, c3, c4, d2, d4, decide_true, decide_false, Bool.and_true, Bool.and_false, Bool.true_and, Bool.false_and, if_true, if_false, Bool.false_eq_true]
           try simp only [Int.not_le] at c2 c4
           try simp only [c2, c4, decide_true, Bool.and_true, if_true, List.length_cons]
           omega)
theorem apt_one {l : List Rc} (ho : ∀ r ∈ l, ROk r) (h : l.Pairwise Apt) (x y : Int) : (l.filter fun r => decide (HasR r x y)).length ≤ 1 := by
 induction l with
 | nil => simp
 | cons r l ih =>
  obtain ⟨h1, h2⟩ := List.pairwise_cons.1 h
  have := ih (fun u hu => ho u (by simp [hu])) h2
  rw [List.filter_cons]
  split
  ·rename_i hr
   rw [List.filter_eq_nil_iff.2 (fun q hq c => ?_)]
   ·simp
   ·simp only [decide_eq_true_eq] at hr c
    exact h1 q hq ⟨by have := hr.2; have := c.2; omega, by have := hr.2; have := c.2; omega, by have := hr.2; have := c.2; omega, by have := hr.2; have := c.2; omega⟩
  ·exact this
theorem filter_has (l : List Rc) (x y : Int) : 0 < (l.filter fun r => decide (HasR r x y)).length ↔ HasL l x y := by
 rw [List.length_pos_iff_exists_mem]
 constructor
 ·rintro ⟨r, hr⟩
  have := List.mem_filter.1 hr
  exact ⟨r, this.1, by simpa using this.2⟩
 ·rintro ⟨r, hr, h⟩
  exact ⟨r, List.mem_filter.2 ⟨hr, by simpa using h⟩⟩
structure CnOk (l : List Rc) (C : List (Int × Int)) : Prop where
 ok : ∀ r ∈ l, ROk r
 apt : l.Pairwise Apt
 asc : C.Pairwise fun p q => p.1 < q.1 ∨ (p.1 = q.1 ∧ p.2 < q.2)
 par : ∀ q : Int × Int → Bool, C.countP q % 2 = (cornersOf l).countP q % 2
 sub : ∀ p ∈ C, p ∈ cornersOf l
theorem CnOk.has {l : List Rc} {C : List (Int × Int)} (h : CnOk l C) (x y : Int) : C.countP (qB x y) % 2 = 1 ↔ HasL l x y := by
 rw [h.par, corners_par x y h.ok, ← filter_has]
 have := apt_one h.ok h.apt x y
 omega
theorem corner_in {l : List Rc} (ho : ∀ r ∈ l, ROk r) {p : Int × Int} (h : p ∈ cornersOf l) : 0 ≤ p.1 ∧ p.1 ≤ 1048576 ∧ 0 ≤ p.2 ∧ p.2 ≤ 1048576 := by
 obtain ⟨r, hr, h⟩ := List.mem_flatMap.1 h
 have := ho r hr
 unfold ROk Span at this
 simp at h
 rcases h with rfl | rfl | rfl | rfl <;> simp only <;> omega
def dX : List (Int × Int) → List Int
 | [] => []
 | [p] => [p.1]
 | p :: q :: t => if q.1 = p.1 then dX (q :: t) else p.1 :: dX (q :: t)
theorem dX_head (p : Int × Int) : ∀ t, ∃ s, dX (p :: t) = p.1 :: s
 | [] => ⟨[], rfl⟩
 | q :: t => by
  unfold dX
  split
  ·rename_i e
   obtain ⟨s, hs⟩ := dX_head q t
   exact ⟨s, by rw [hs, e]⟩
  ·exact ⟨_, rfl⟩
theorem dX_mem (a : Int) : ∀ C, a ∈ dX C ↔ ∃ p ∈ C, p.1 = a
 | [] => by simp [dX]
 | [p] => by simp [dX, eq_comm]
 | p :: q :: t => by
  unfold dX
  split
  ·rename_i e
   rw [dX_mem a (q :: t)]
   constructor
   ·rintro ⟨r, hr, h⟩; exact ⟨r, List.mem_cons_of_mem _ hr, h⟩
   ·rintro ⟨r, hr, h⟩
    rcases List.mem_cons.1 hr with rfl | hr
    ·exact ⟨q, by simp, by rw [e, h]⟩
    ·exact ⟨r, hr, h⟩
  ·rw [List.mem_cons, dX_mem a (q :: t)]
   constructor
   ·rintro (h | ⟨r, hr, h⟩)
    ·exact ⟨p, by simp, h.symm⟩
    ·exact ⟨r, List.mem_cons_of_mem _ hr, h⟩
   ·rintro ⟨r, hr, h⟩
    rcases List.mem_cons.1 hr with rfl | hr
    ·exact .inl h.symm
    ·exact .inr ⟨r, hr, h⟩
theorem dX_asc : ∀ {C : List (Int × Int)}, C.Pairwise (fun p q => p.1 < q.1 ∨ (p.1 = q.1 ∧ p.2 < q.2)) → Asc (dX C)
 | [], _ => trivial
 | [p], _ => trivial
 | p :: q :: t, h => by
  obtain ⟨h1, h2⟩ := List.pairwise_cons.1 h
  unfold dX
  split
  ·exact dX_asc h2
  ·rename_i hne
   refine Asc.cons (dX_asc h2) (fun x hx => ?_)
   obtain ⟨r, hr, rfl⟩ := (dX_mem x _).1 hx
   have a1 := h1 q (by simp)
   rcases List.mem_cons.1 hr with rfl | hr
   ·omega
   ·have a2 := (List.pairwise_cons.1 h2).1 r hr
    omega
theorem CnOk.same {l : List Rc} {C : List (Int × Int)} (h : CnOk l C) {a x y : Int} (hc : ∀ p ∈ C, p.1 ≤ a ↔ p.1 ≤ x) : HasL l x y ↔ HasL l a y := by
 rw [← h.has, ← h.has]
 have : C.countP (qB x y) = C.countP (qB a y) := List.countP_congr (fun p hp => by simp only [qB, Bool.and_eq_true, decide_eq_true_eq]; rw [hc p hp])
 rw [this]
theorem cnt_at (a y : Int) : ∀ C : List (Int × Int), C.countP (qB a y) = C.countP (qB (a - 1) y) + (C.filter (fun p => decide (p.1 = a))).countP (yB y)
 | [] => rfl
 | v :: C => by
  rw [List.countP_cons, List.countP_cons, List.filter_cons, cnt_at a y C]
  by_cases c2 : v.1 = a
  ·have e1 : qB a y v = yB y v := by unfold qB yB; simp [c2]
   have e2 : qB (a - 1) y v = false := by unfold qB; simp; intro h; omega
   rw [e1, e2, if_pos (c := decide (v.1 = a) = true) (by simp [c2]), List.countP_cons]
   simp only [Bool.false_eq_true, if_false]
   omega
  ·have e1 : qB a y v = qB (a - 1) y v := by
    unfold qB
    rw [show decide (v.1 ≤ a) = decide (v.1 ≤ a - 1) from decide_eq_decide.2 (by omega)]
   rw [e1, if_neg (c := decide (v.1 = a) = true) (by simp [c2])]
   omega
theorem CnOk.turn {l : List Rc} {C : List (Int × Int)} (h : CnOk l C) {a : Int} (ha : a ∈ dX C) : ∃ y, ¬ (HasL l (a - 1) y ↔ HasL l a y) := by
 obtain ⟨p, hp, e⟩ := (dX_mem a C).1 ha
 cases hf : C.filter (fun p => decide (p.1 = a)) with
 | nil =>
  have := List.filter_eq_nil_iff.1 hf p hp
  simp [e] at this
 | cons p0 t =>
  have hw : (p0 :: t).Pairwise fun p q => p.1 < q.1 ∨ (p.1 = q.1 ∧ p.2 < q.2) := by rw [← hf]; exact h.asc.filter _
  have hall : ∀ q ∈ p0 :: t, q.1 = a := fun q hq => by
   rw [← hf] at hq
   simpa using (List.mem_filter.1 hq).2
  refine ⟨p0.2, fun c => ?_⟩
  rw [← h.has, ← h.has] at c
  have h1 := cnt_at a p0.2 C
  rw [hf, List.countP_cons] at h1
  have h2 : t.countP (yB p0.2) = 0 := by
   rw [List.countP_eq_zero]
   intro q hq
   have a1 := (List.pairwise_cons.1 hw).1 q hq
   have a2 := hall q (List.mem_cons_of_mem _ hq)
   have a3 := hall p0 (by simp)
   simp [yB]; omega
  rw [h2] at h1
  simp [yB] at h1
  omega
def ColsDf (T : Int → Int → List Int) : List Int → Prop
 | a :: b :: c :: t => T a b ≠ T b c ∧ ColsDf T (b :: c :: t)
 | _ => True
def neS (s : Slab) : Bool := !s.t.isEmpty
theorem polyS_behind {T : Int → Int → List Int} : ∀ (xs : List Int) (b : Int), Asc (b :: xs) → ∀ u ∈ polyS T (b :: xs), b ≤ u.x0
 | [], b, _, u, hu => nomatch hu
 | c :: t, b, h, u, hu => by
  rcases List.mem_cons.1 hu with rfl | hu
  ·exact Int.le_refl _
  ·have := polyS_behind t c h.2 u hu
   have := h.1
   omega
theorem polyS_okE {T : Int → Int → List Int} {q : Int → Int → Bool} : ∀ xs, Asc xs → InG xs → ColsOk T q xs → ColsDf T xs → SlabsOk ((polyS T xs).filter neS)
 | [], _, _, _, _ => trivial
 | [_], _, _, _, _ => trivial
 | a :: b :: t, hA, hG, hC, hN => by
  obtain ⟨c1, c2, c3, c4⟩ := hC a b List.mem_cons_self (List.mem_cons_of_mem _ List.mem_cons_self) hA.1 (fun c hc => by
   rcases List.mem_cons.1 hc with rfl | hc
   ·left; omega
   ·right; exact asc_le hA.2 hc)
  have hs : Span a b := ⟨(hG a List.mem_cons_self).1, hA.1, (hG b (List.mem_cons_of_mem _ List.mem_cons_self)).2⟩
  have ih := polyS_okE (b :: t) hA.2 (fun d hd => hG d (List.mem_cons_of_mem _ hd)) (hC.tail hA) (by
   cases t with
   | nil => trivial
   | cons c t => exact hN.2)
  rw [show polyS T (a :: b :: t) = ⟨a, b, T a b⟩ :: polyS T (b :: t) from rfl, List.filter_cons]
  split
  ·rename_i hne
   have hne2 : T a b ≠ [] := fun e => by rw [e] at hne; simp [neS] at hne
   have hok : SlabOk ⟨a, b, T a b⟩ := ⟨hs, hne2, c2, c1, c3⟩
   cases hr : (polyS T (b :: t)).filter neS with
   | nil => exact hok
   | cons u U =>
    rw [hr] at ih
    have hu : u ∈ polyS T (b :: t) := (List.mem_filter.1 (by rw [hr]; simp : u ∈ (polyS T (b :: t)).filter neS)).1
    have hle := polyS_behind t b hA.2 u hu
    refine ⟨hok, ⟨hle, fun e => ?_⟩, ih⟩
    cases t with
    | nil => exact nomatch hu
    | cons c t =>
     rcases List.mem_cons.1 hu with rfl | hu
     ·exact hN.1
     ·have := polyS_behind t c hA.2.2 u hu
      have := hA.2.1
      simp only at e
      omega
  ·exact ih
theorem polyS_flatE (T : Int → Int → List Int) : ∀ xs, flatS ((polyS T xs).filter neS) = polyR T xs
 | [] => rfl
 | [_] => rfl
 | a :: b :: t => by
  have ih := polyS_flatE T (b :: t)
  rw [show polyS T (a :: b :: t) = ⟨a, b, T a b⟩ :: polyS T (b :: t) from rfl, show polyR T (a :: b :: t) = rectsOf a b (T a b) ++ polyR T (b :: t) from rfl, List.filter_cons, ← ih]
  split
  ·rfl
  ·rename_i hne
   have : T a b = [] := by
    cases h : T a b with
    | nil => rfl
    | cons x y => rw [h] at hne; simp [neS] at hne
   rw [this]; rfl
def colT (l : List Rc) (a _b : Int) : List Int := colS l a
theorem CnOk.colsOk {l : List Rc} {C : List (Int × Int)} (h : CnOk l C) : ColsOk (colT l) (hasB l) (dX C) := fun a b ha hb hab hn => by
 obtain ⟨c1, c2⟩ := colS_is h.ok a
 refine ⟨c1.ev, c1.asc, c1.gr, fun x y h1 h2 => ?_⟩
 have e := h.same (a := a) (x := x) (y := y) (fun p hp => by
  have := hn p.1 ((dX_mem _ _).2 ⟨p, hp, rfl⟩)
  omega)
 unfold colT
 rw [colS_has h.ok a y]
 have h3 := hasB_iff l a y
 have h4 := hasB_iff l x y
 rw [e, ← h3] at h4
 cases c3 : hasB l a y <;> cases c4 : hasB l x y <;> simp_all
theorem CnOk.colsDf {l : List Rc} {C : List (Int × Int)} (h : CnOk l C) : ∀ xs, Asc xs → (∀ a ∈ xs, a ∈ dX C) → (∀ c ∈ dX C, ∀ a ∈ xs, a ≤ c → c ∈ xs) → ColsDf (colT l) xs
 | [], _, _, _ => trivial
 | [_], _, _, _ => trivial
 | [_, _], _, _, _ => trivial
 | a :: b :: c :: t, hA, hm, hd => by
  refine ⟨fun e => ?_, h.colsDf (b :: c :: t) hA.2 (fun x hx => hm x (List.mem_cons_of_mem _ hx)) (fun x hx z hz hle => ?_)⟩
  ·obtain ⟨y, hy⟩ := h.turn (hm b (by simp))
   apply hy
   have e1 : HasL l (b - 1) y ↔ HasL l a y := h.same (fun p hp => by
    have h1 := (dX_mem p.1 C).2 ⟨p, hp, rfl⟩
    have hab := hA.1
    constructor
    ·intro h2; omega
    ·intro h2
     rcases Int.lt_or_le p.1 a with c1 | c1
     ·omega
     ·have h3 := hd _ h1 a (by simp) c1
      rcases List.mem_cons.1 h3 with e3 | h3
      ·omega
      ·have := asc_le hA.2 h3; omega)
   rw [e1, ← (colS_is h.ok a).2 y, ← (colS_is h.ok b).2 y]
   unfold colT at e
   rw [e]
  ·have h1 := hd x hx z (List.mem_cons_of_mem _ hz) hle
   rcases List.mem_cons.1 h1 with rfl | h1
   ·have := asc_le hA.2 hz; have := hA.1; omega
   ·exact h1
theorem CnOk.form {l : List Rc} {C : List (Int × Int)} (h : CnOk l C) : formL l = polyR (colT l) (dX C) := by
 have hA := dX_asc h.asc
 have hG : InG (dX C) := fun a ha => by
  obtain ⟨p, hp, rfl⟩ := (dX_mem a C).1 ha
  have := corner_in h.ok (h.sub p hp)
  omega
 obtain ⟨f1, f2⟩ := formL_is h.ok
 refine form_eq f1 ⟨_, polyS_okE (dX C) hA hG h.colsOk (h.colsDf _ hA (fun a ha => ha) (fun c hc _ _ _ => hc)), (polyS_flatE _ _).symm⟩ (fun x y => ?_)
 rw [f2, polyR_has (dX C) hA hG h.colsOk x y, ← hasB_iff]
 constructor
 ·intro hh
  have h1 := (h.has x y).2 ((hasB_iff l x y).1 hh)
  refine ⟨?_, ?_, hh⟩
  ·have : 0 < C.countP (qB x y) := by omega
   obtain ⟨p, hp, hq⟩ := List.countP_pos_iff.1 this
   simp only [qB, Bool.and_eq_true, decide_eq_true_eq] at hq
   exact ⟨p.1, (dX_mem _ _).2 ⟨p, hp, rfl⟩, hq.1⟩
  ·by_cases c : ∃ b ∈ dX C, x < b
   ·exact c
   ·exfalso
    have e : C.countP (qB x y) = C.countP (qB 1048577 y) := List.countP_congr (fun p hp => by
     have h2 : ¬ x < p.1 := fun c2 => c ⟨p.1, (dX_mem _ _).2 ⟨p, hp, rfl⟩, c2⟩
     have := corner_in h.ok (h.sub p hp)
     simp only [qB, Bool.and_eq_true, decide_eq_true_eq]
     omega)
    rw [e] at h1
    obtain ⟨r, hr, h3⟩ := (h.has 1048577 y).1 h1
    have := h3.1
    have := h3.2
    unfold ROk Span at *
    omega
 ·rintro ⟨_, _, hh⟩; exact hh
theorem CnOk.rows {l : List Rc} {C : List (Int × Int)} (h : CnOk l C) {i : Nat} (hi : i < C.length) (hn : ∀ j, i < j → ∀ hj : j < C.length, C[i].1 < C[j].1) {R : List Int} (ha : Asc R)
  (hp : ∀ q : Int → Bool, R.countP q % 2 = (C.take (i + 1)).countP (fun p => q p.2) % 2) : R = colS l C[i].1 := by
 obtain ⟨c1, c2⟩ := colS_is h.ok C[i].1
 refine col_eq ha c1.asc (fun y => ?_)
 have h1 : inT R y = true ↔ HasL l C[i].1 y := by
  rw [← h.has]
  unfold inT cntT
  rw [← List.countP_eq_length_filter, beq_iff_eq, hp]
  have e : C.countP (qB C[i].1 y) = (C.take (i + 1)).countP (fun p => decide (p.2 ≤ y)) := by
   have e0 : ∀ q : Int × Int → Bool, C.countP q = (C.take (i + 1)).countP q + (C.drop (i + 1)).countP q := fun q => by rw [← List.countP_append, List.take_append_drop]
   rw [e0]
   have e2 : (C.drop (i + 1)).countP (qB C[i].1 y) = 0 := by
    rw [List.countP_eq_zero]
    intro p hp
    obtain ⟨j, hj, rfl⟩ := List.getElem_of_mem hp
    rw [List.length_drop] at hj
    rw [List.getElem_drop]
    have := hn (i + 1 + j) (by omega) (by omega)
    simp [qB]; omega
   rw [e2, Nat.add_zero]
   refine List.countP_congr (fun p hp => ?_)
   obtain ⟨j, hj, rfl⟩ := List.getElem_of_mem hp
   rw [List.length_take] at hj
   rw [List.getElem_take]
   have hle : C[j].1 ≤ C[i].1 := by
    by_cases e : j = i
    ·subst e; exact Int.le_refl _
    ·have := List.pairwise_iff_getElem.1 h.asc j i (by omega) hi (by omega)
     omega
   simp [qB, hle]
  rw [e]
 rw [← c2 y] at h1
 cases e1 : inT R y <;> cases e2 : inT (colS l C[i].1) y <;> simp_all
theorem CnOk.last {l : List Rc} {C : List (Int × Int)} (h : CnOk l C) {i : Nat} (hi : i < C.length) (hl : i + 1 = C.length) : colS l C[i].1 = [] := by
 obtain ⟨c1, c2⟩ := colS_is h.ok C[i].1
 by_cases hne : colS l C[i].1 = []
 ·exact hne
 ·exfalso
  obtain ⟨y, _, hy⟩ := col_some c1.asc hne
  have h1 := (c2 y).1 hy
  rw [← h.same (x := 1048577) (fun p hp => by
   obtain ⟨j, hj, rfl⟩ := List.getElem_of_mem hp
   have := corner_in h.ok (h.sub _ hp)
   have : C[j].1 ≤ C[i].1 := by
    by_cases e : j = i
    ·subst e; exact Int.le_refl _
    ·have := List.pairwise_iff_getElem.1 h.asc j i (by omega) hi (by omega)
     omega
   omega)] at h1
  obtain ⟨r, hr, h3⟩ := h1
  have := h3.1
  have := h3.2
  unfold ROk Span at *
  omega
theorem dX_drop {C : List (Int × Int)} {i : Nat} (hi : i < C.length) : (∀ h : i + 1 < C.length, C[i + 1].1 = C[i].1 → dX (C.drop i) = dX (C.drop (i + 1))) ∧ (∀ h : i + 1 < C.length, C[i + 1].1 ≠ C[i].1 → ∃ s, dX (C.drop (i + 1)) = C[i + 1].1 :: s ∧ dX (C.drop i) = C[i].1 :: C[i + 1].1 :: s) ∧ (i + 1 = C.length → dX (C.drop i) = [C[i].1]) := by
 have e0 : C.drop i = C[i] :: C.drop (i + 1) := List.drop_eq_getElem_cons hi
 refine ⟨fun h e => ?_, fun h e => ?_, fun h => ?_⟩
 ·rw [e0, List.drop_eq_getElem_cons h]
  rw [dX, if_pos e]
 ·obtain ⟨s, hs⟩ := dX_head C[i + 1] (C.drop (i + 1 + 1))
  refine ⟨s, by rw [List.drop_eq_getElem_cons h, hs], ?_⟩
  rw [e0, List.drop_eq_getElem_cons h, dX, if_neg e, hs]
 ·rw [e0, List.drop_eq_nil_of_le (by omega)]; rfl
end Go.Proofs.YtngddecpfhlilaaGreat
