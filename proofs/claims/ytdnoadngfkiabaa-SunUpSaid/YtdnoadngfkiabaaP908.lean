/-
  Contracts of the program's layer 6 (8): the two sorts that form calls.
  Contracts of the program's layer 6 (9): what form builds: the sides and the edges of some lists; the sorts of whatever length.
-/
import Derived.Test.YtdnoadngfkiabaaP906
import Derived.Test.YtdnoadngfkiabaaWs
import Derived.Test.YtdnoadngfkiabaaP900
import Derived.Test.YtdnoadngfkiabaaP907
set_option linter.unusedVariables false
set_option maxRecDepth 100000
namespace Go.Proofs.Ytdnoadngfkiabaa
open Go.RowKit Go.Shelf Go.Lib Go.Sort

theorem grownBy_sort {w : World} {n g : Nat} {f : Array Value → Array Value} {os : Array Obj} : w.grownBy (grow (mapBlock (Sort.ahead w n) g f) os) (some g) := by
  refine ⟨rfl, rfl, rfl, by simp [grow, mapBlock, Sort.ahead], fun k hk hne => ?_⟩
  rw [heap_grow_old _ _ (by simp [mapBlock, Sort.ahead]; exact hk)]
  have : k ≠ g := fun e => hne (by rw [e])
  simp [mapBlock, Sort.ahead, Array.getElem?_modify]; intro e; exact absurd e.symm this
theorem sort_cell {w : World} {n g : Nat} {d0 d : Array Int} {os : Array Obj} (h0 : Holds (Value.int .i64) w g 0 d0) (hs : d.size = d0.size) (hg : g < w.heap.size) (j : Nat) (hj : j < d.size) : (grow (putRow (Value.int .i64) (Sort.ahead w n) g 0 d) os).cell? ⟨g, j, none⟩ = some (.int .i64 d[j]!) := by
  rw [cell?_grow _ _ _ (by simpa using hg)]
  have := cell?_putRow (Value.int .i64) (Sort.ahead w n) g 0 d0 d h0 hs j hj
  rwa [Nat.zero_add] at this
theorem gsort_any (B g cap : Nat) (l : List Int) (w : World) (h : w.ownsRow B 3 1 (.slice (some ⟨g, 0, none⟩) l.length cap) l.length (icells l)) (hl : l.length ≤ 1099511627776) :
    Calls Try.prog 50 #[.slice (some ⟨g, 0, none⟩) l.length cap] w fun e w' => e = .returned (.tuple #[]) ∧ ∃ S : List Int, S.Perm l ∧ SortN S ∧ (∀ j (h : j < S.length), w'.cell? ⟨g, j, none⟩ = some (.int .i64 S[j])) ∧ w.grownBy w' (some g) := by
  have hg : g < w.heap.size := (h.lt g rfl).2
  have hH : Holds (Value.int .i64) w g 0 l.toArray := fun j hj => by
    have hj' : j < l.length := by simpa using hj
    refine ⟨?_, h.frozenAt _⟩
    rw [Nat.zero_add, h.cellAt j (by omega)]
    simp [icells, hj']
  refine (Go.Proofs.Try.slices_Sort_int g 0 cap l w hH hg (by omega)).mono ?_
  rintro e w' ⟨rfl, n, os, rfl⟩
  have hp := List.mergeSort_perm l (fun x y => decide (x ≤ y))
  refine ⟨rfl, l.mergeSort fun x y => decide (x ≤ y), hp, ?_, fun j hj => ?_, grownBy_sort⟩
  · have hs := List.pairwise_mergeSort (le := fun x y : Int => decide (x ≤ y)) (fun a b c h1 h2 => by simp at *; omega) (fun a b => by simp; omega) l
    intro i j hi hj hij
    rcases Nat.lt_or_ge i j with hlt | hge
    · have := List.pairwise_iff_getElem.1 hs i j hi hj hlt
      simpa using this
    · obtain rfl : i = j := by omega
      exact Int.le_refl _
  · rw [sort_cell hH (by simp [hp.length_eq]) hg j (by simpa using hj)]
    rw [getElem!_pos _ j (by simpa using hj)]; simp

instance : Inhabited Ed := ⟨⟨0, 0, 0, 0, 0⟩⟩
def encE (e : Ed) : List Value := [.int .i64 e.x0, .int .i64 e.x1, .int .i64 e.y, .int .i64 (e.l : Int), .int .i64 e.s]
def ecells (E : List Ed) : List Value := E.flatMap encE
theorem ecells_append (E F : List Ed) : ecells (E ++ F) = ecells E ++ ecells F := by simp [ecells]
theorem ecells_at : ∀ (E : List Ed) (t : Nat), t < E.length * 5 → (ecells E)[t]? = some ((encE E[t / 5]!)[t % 5]!) := by
  intro E
  induction E with
  | nil => intro t h; simp at h
  | cons e E ih =>
    intro t h
    match t with
    | 0 => rfl
    | 1 => rfl
    | 2 => rfl
    | 3 => rfl
    | 4 => rfl
    | t + 5 =>
      have h' : t < E.length * 5 := by simp at h; omega
      show (ecells E)[t]? = _
      rw [ih t h', show (t + 5) / 5 = t / 5 + 1 by omega, show (t + 5) % 5 = t % 5 by omega]
      simp
theorem ltE (x y : Ed) : ltOf (fun x y : Ed => Lib.compareInt x.y y.y) x y = decide (x.y < y.y) := by
  unfold ltOf Lib.compareInt
  by_cases h1 : x.y < y.y
  · simp [h1]
  · by_cases h2 : y.y < x.y <;> simp [h1, h2]
theorem swoE : SWO (ltOf fun x y : Ed => Lib.compareInt x.y y.y) where
  irrefl x := by rw [ltE]; simp
  trans x y z h1 h2 := by rw [ltE] at *; simp at *; omega
  ntrans x y z h1 h2 := by rw [ltE] at *; simp at *; omega
set_option maxHeartbeats 2000000 in
theorem gformC_any (x y : Ed) (W : World) : Calls Try.prog 72 #[.agg #[.int .i64 x.x0, .int .i64 x.x1, .int .i64 x.y, .int .i64 (x.l : Int), .int .i64 x.s], .agg #[.int .i64 y.x0, .int .i64 y.x1, .int .i64 y.y, .int .i64 (y.l : Int), .int .i64 y.s]] W fun e w' => e = .returned (.int .i64 (Lib.compareInt x.y y.y)) ∧ ∃ q os', w' = grow (W.drewN q) os' := by
  have hcon := fun W' => Go.Proofs.Try.cmp_Compare_int x.y y.y W'
  generalize Lib.compareInt x.y y.y = r at hcon ⊢
  go_enter Try.func72, Try.ntmps72
  go_wp2_with (go_at_call 73; refine (hcon _).mono ?_; rintro e w' ⟨rfl, rfl⟩)
  go_ret
  exact ⟨rfl, 0, _, by rw [alloc_eq_grow, alloc_eq_grow, grow_grow]; rfl⟩
theorem gsortf_any (B g cap : Nat) (E : List Ed) (w : World) (h : w.ownsRow B 97 5 (.slice (some ⟨g, 0, none⟩) E.length cap) E.length (ecells E)) (hl : E.length ≤ 1099511627776) :
    Calls Try.prog 71 #[.slice (some ⟨g, 0, none⟩) E.length cap, .func (.func 72) #[] #[]] w fun e w' => e = .returned (.tuple #[]) ∧ ∃ E' : List Ed, E.Perm E' ∧ SortE E' ∧ (∀ j (h : j < E'.length), w'.cell? ⟨g, j * 5, none⟩ = some (.int .i64 E'[j].x0) ∧ w'.cell? ⟨g, j * 5 + 1, none⟩ = some (.int .i64 E'[j].x1) ∧ w'.cell? ⟨g, j * 5 + 2, none⟩ = some (.int .i64 E'[j].y) ∧ w'.cell? ⟨g, j * 5 + 3, none⟩ = some (.int .i64 (E'[j].l : Int)) ∧ w'.cell? ⟨g, j * 5 + 4, none⟩ = some (.int .i64 E'[j].s)) ∧ w.grownBy w' (some g) := by
  have hg : g < w.heap.size := (h.lt g rfl).2
  have eg : ∀ args w, (callFunc 72 args).run Try.prog w = .ok (.enter 72 args) w := enters_of Try.func72 (by kernel_rfl) rfl
  have hH : HoldsK encE 5 w g 0 E.toArray := fun j hj => by
    have hj' : j < E.length * 5 := by simpa using hj
    refine ⟨?_, h.frozenAt _⟩
    rw [Nat.zero_add, h.cellAt j hj', ecells_at E j hj', get_flatK _ _ _ _ (by simpa using hj')]
    simp [id]
  have hcmp : CmpLays Try.prog 72 #[] encE 5 (fun x y : Ed => Lib.compareInt x.y y.y) g 0 E.toArray.size w := fun _ _ _ _ x y => gformC_any x y _
  have hcon := AnyQ.slices_SortFunc Go.Proofs.Try.laysSlF06_f71 5 Try.isAgg97 Try.sizeOf97 encE (fun _ => rfl) (fun x v hv => by simp [encE] at hv; rcases hv with rfl | rfl | rfl | rfl | rfl <;> rfl) (fun x y : Ed => Lib.compareInt x.y y.y) swoE 72 #[] g 0 cap E.toArray w eg hcmp hH hg (by simp; omega)
  change Calls Try.prog 71 _ _ _ at hcon
  rw [show E.toArray.size = E.length from by simp] at hcon
  refine hcon.mono ?_
  rintro e w' ⟨rfl, d', n, os, hp, hs, rfl⟩
  obtain ⟨p1, _, p3⟩ := hp
  have hlen : d'.size = E.length := by simpa using p1
  have e1 : (d'.extract 0 E.length).toList = d'.toList := by rw [← hlen]; simp
  have e2 : (E.toArray.extract 0 E.length).toList = E := by simp
  rw [e1, e2] at p3
  have hHold : HoldsK encE 5 (sortWorldK encE 5 w g 0 n d' os) g 0 d' := holdsK_grow _ _ _ _ _ _ _ (by simp [putRowK]; exact hg) (holdsK_putRowK _ _ _ _ _ _ _ (holdsK_ahead _ _ _ _ _ _ _ hH) (by simp [hlen]))
  refine ⟨rfl, d'.toList, p3.symm, ?_, fun j hj => ?_, grownBy_sort⟩
  · intro i j hi hj hij
    simp only [Array.length_toList] at hi hj
    rcases Nat.lt_or_ge i j with hlt | hge
    · have := hs i j (Nat.zero_le _) hlt (by omega)
      rw [ltE, getElem!_pos _ j hj, getElem!_pos _ i hi] at this
      simp only [decide_eq_false_iff_not, Int.not_lt] at this
      simpa using this
    · obtain rfl : i = j := by omega
      exact Int.le_refl _
  · simp only [Array.length_toList] at hj
    have c := fun i (hi : i < 5) => (hHold (j * 5 + i) (by simp; omega)).1
    have f := fun i (hi : i < 5) => get_flatK encE 5 d' (j * 5 + i) (by omega)
    have d := fun i (hi : i < 5) => show (j * 5 + i) / 5 = j ∧ (j * 5 + i) % 5 = i by omega
    have key : ∀ i, i < 5 → (sortWorldK encE 5 w g 0 n d' os).cell? ⟨g, j * 5 + i, none⟩ = some ((encE d'[j])[i]!) := fun i hi => by
      have := c i hi
      rw [f i hi, (d i hi).1, (d i hi).2, Nat.zero_add, getElem!_pos d' j hj] at this
      exact this
    simp only [Array.getElem_toList]
    exact ⟨key 0 (by omega), key 1 (by omega), key 2 (by omega), key 3 (by omega), key 4 (by omega)⟩
end Go.Proofs.Ytdnoadngfkiabaa
namespace Go.Proofs.Ytdnoadngfkiabaa
open Go.RowKit

theorem icells_append (l m : List Int) : icells (l ++ m) = icells l ++ icells m := by simp [icells]
theorem own_apart {w : World} {B B' e e' s s' n n' : Nat} {v v' : Value} {xs xs' : List Value} (h : w.ownsRow B e s v n xs) (h' : w.ownsRow B' e' s' v' n' xs') (hne : e ≠ e') : ∀ g, v.ownBlock = some g → v'.ownBlock ≠ some g := by
  intro g hg hg'
  obtain ⟨_, h⟩ := h
  obtain ⟨_, h'⟩ := h'
  rcases h with ⟨rfl, _⟩ | ⟨g1, cap, cur, rfl, _, hc, _⟩
  · simp [Value.ownBlock] at hg
  · rcases h' with ⟨rfl, _⟩ | ⟨g2, cap2, cur2, rfl, _, hc2, _⟩
    · simp [Value.ownBlock] at hg'
    · simp only [Value.ownBlock, Option.some.injEq] at hg hg'
      subst hg; subst hg'
      rw [hc] at hc2
      simp only [Option.some.injEq, Obj.cells.injEq] at hc2
      exact hne hc2.2.1
theorem own_kept {w w' : World} {B B' e e' s s' n n' : Nat} {v v' : Value} {xs xs' : List Value} (h : w.ownsRow B e s v n xs) (h' : w.ownsRow B' e' s' v' n' xs') (hne : e' ≠ e) (hg : w.grownBy w' v.ownBlock) : w'.ownsRow B' e' s' v' n' xs' :=
  own_stays h' (fun g hgb => hg.block g (h'.lt g hgb).2 (fun e => own_apart h' h hne g hgb e.symm))
/-- what form has built so far. -/
structure BW (vs ve : Value) (S : List Int) (E : List Ed) (w wr : World) : Prop where
  own1 : wr.ownsRow w.heap.size 3 1 vs S.length (icells S)
  own2 : wr.ownsRow w.heap.size 97 5 ve E.length (ecells E)
  bel : Below w.heap.size w wr
theorem BW.go {vs ve : Value} {S : List Int} {E : List Ed} {w wr w' : World} (h : BW vs ve S E w wr) (hb : Below wr.heap.size wr w') : BW vs ve S E w w' := ⟨own_go h.own1 hb, own_go h.own2 hb, h.bel.trans (hb.mono h.bel.size)⟩
theorem BW.add1 {vs ve vs' : Value} {S S' : List Int} {E : List Ed} {w wr w' : World} (h : BW vs ve S E w wr) (ho : w'.ownsRow w.heap.size 3 1 vs' S'.length (icells S')) (hg : wr.grownBy w' vs.ownBlock) : BW vs' ve S' E w w' :=
  ⟨ho, own_kept h.own1 h.own2 (by decide) hg, Below.grown h.bel hg h.bel.size (fun k hk => (h.own1.lt k hk).1)⟩
theorem BW.add2 {vs ve ve' : Value} {S : List Int} {E E' : List Ed} {w wr w' : World} (h : BW vs ve S E w wr) (ho : w'.ownsRow w.heap.size 97 5 ve' E'.length (ecells E')) (hg : wr.grownBy w' ve.ownBlock) : BW vs ve' S E' w w' :=
  ⟨own_kept h.own2 h.own1 (by decide) hg, ho, Below.grown h.bel hg h.bel.size (fun k hk => (h.own2.lt k hk).1)⟩
/-- lists of rectangles one after the other. -/
def LRow (w : World) (A : Option Addr) (LL : List (List Rc)) : Prop := 0 < LL.length → ∃ b off, A = some ⟨b, off, none⟩ ∧ b < w.heap.size ∧ ∀ j (h : j < LL.length), ∃ Aj cj, w.cell? ⟨b, off + j, none⟩ = some (.slice Aj LL[j].length cj) ∧ RRow w Aj LL[j]
theorem own_ints {w : World} {B : Nat} {v : Value} {l : List Int} (h : w.ownsRow B 3 1 v l.length (icells l)) :
    ∃ A cap, v = .slice A l.length cap ∧ IRow w A l ∧ (0 < l.length → ∃ g, A = some ⟨g, 0, none⟩ ∧ B ≤ g ∧ g < w.heap.size) := by
  obtain ⟨A, cap, rfl, hA⟩ := own_parts h
  refine ⟨A, cap, rfl, fun h0 => ?_, fun h0 => ?_⟩
  · obtain ⟨g, rfl, hg, hc⟩ := hA h0
    exact ⟨g, 0, rfl, hg, fun j hj => by rw [Nat.zero_add, hc j (by omega)]; simp [icells, hj]⟩
  · obtain ⟨g, rfl, hg, hc⟩ := hA h0
    exact ⟨g, rfl, (h.lt g rfl).1, hg⟩
def SortIs (v : Value) (l : List Int) (w : World) (e : Ending) (w' : World) : Prop := e = .returned (.tuple #[]) ∧ ∃ S : List Int, S.Perm l ∧ SortN S ∧ (∀ A n c, v = .slice A n c → IRow w' A S) ∧ w.grownBy w' v.ownBlock
theorem gsort_all (B : Nat) (v : Value) (l : List Int) (w : World) (h : w.ownsRow B 3 1 v l.length (icells l)) (hl : l.length ≤ 1099511627776) : Calls Try.prog 50 #[v] w (SortIs v l w) := by
  have hh := h
  obtain ⟨A, cap, rfl, _, hA⟩ := own_ints h
  rcases Nat.eq_zero_or_pos l.length with h0 | h0
  · rw [h0]
    refine (Go.Proofs.Try.slices_Sort_int_none A cap w).mono ?_
    rintro e w' ⟨rfl, rfl⟩
    obtain rfl := List.length_eq_zero_iff.1 h0
    exact ⟨rfl, [], List.Perm.refl _, (fun i j hi => by simp at hi), fun A n c _ => IRow.nil _ _, World.grownBy.refl _ _⟩
  · obtain ⟨g, rfl, hg1, hg2⟩ := hA h0
    refine (gsort_any B g cap l w hh hl).mono ?_
    rintro e w' ⟨rfl, S, h1, h2, h3, h4⟩
    refine ⟨rfl, S, h1, h2, fun A n c e => ?_, h4⟩
    injection e with e1 e2 e3
    subst e1
    exact fun _ => ⟨g, 0, rfl, Nat.lt_of_lt_of_le hg2 h4.size, fun j hj => by rw [Nat.zero_add]; exact h3 j hj⟩
theorem own_eds {w : World} {B : Nat} {v : Value} {l : List Ed} (h : w.ownsRow B 97 5 v l.length (ecells l)) :
    ∃ A cap, v = .slice A l.length cap ∧ (0 < l.length → ∃ g, A = some ⟨g, 0, none⟩ ∧ B ≤ g ∧ g < w.heap.size) := by
  obtain ⟨A, cap, rfl, hA⟩ := own_parts h
  refine ⟨A, cap, rfl, fun h0 => ?_⟩
  obtain ⟨g, rfl, hg, hc⟩ := hA h0
  exact ⟨g, rfl, (h.lt g rfl).1, hg⟩
def SortFIs (v : Value) (E : List Ed) (w : World) (e : Ending) (w' : World) : Prop := e = .returned (.tuple #[]) ∧ ∃ E' : List Ed, E.Perm E' ∧ SortE E' ∧ (∀ A n c, v = .slice A n c → EdRow w' w'.heap.size A E') ∧ w.grownBy w' v.ownBlock
theorem gsortf_all (B : Nat) (v : Value) (E : List Ed) (w : World) (h : w.ownsRow B 97 5 v E.length (ecells E)) (hl : E.length ≤ 1099511627776) : Calls Try.prog 71 #[v, .func (.func 72) #[] #[]] w (SortFIs v E w) := by
  have hh := h
  obtain ⟨A, cap, rfl, hA⟩ := own_eds h
  rcases Nat.eq_zero_or_pos E.length with h0 | h0
  · rw [h0]
    have hc := AnyF.slices_SortFunc_none Go.Proofs.Try.laysSlF06_f71 A cap (.func (.func 72) #[] #[]) w
    change Calls Try.prog 71 _ _ _ at hc
    refine hc.mono ?_
    rintro e w' ⟨rfl, rfl⟩
    obtain rfl := List.length_eq_zero_iff.1 h0
    exact ⟨rfl, [], List.Perm.refl _, (fun i j hi => by simp at hi), fun A n c _ h => absurd h (by simp), World.grownBy.refl _ _⟩
  · obtain ⟨g, rfl, hg1, hg2⟩ := hA h0
    refine (gsortf_any B g cap E w hh hl).mono ?_
    rintro e w' ⟨rfl, S, h1, h2, h3, h4⟩
    refine ⟨rfl, S, h1, h2, fun A n c e => ?_, h4⟩
    injection e with e1 e2 e3
    subst e1
    have hg3 : g < w'.heap.size := Nat.lt_of_lt_of_le hg2 h4.size
    exact fun _ => ⟨g, 0, rfl, hg3, hg3, fun j hj => by rw [Nat.zero_add]; exact h3 j hj⟩
theorem asc_len : ∀ {t : List Int} {lo hi : Int}, Asc t → (∀ x ∈ t, lo ≤ x ∧ x ≤ hi) → lo ≤ hi + 1 → (t.length : Int) ≤ hi - lo + 1 := by
  intro t
  induction t with
  | nil => intro lo hi _ _ h; simp; omega
  | cons a t ih =>
    intro lo hi h hx _
    obtain ⟨h1, h2⟩ := hx a List.mem_cons_self
    have := ih (lo := a + 1) (hi := hi) h.tail (fun x hx2 => ⟨by have := h.lt x hx2; omega, (hx x (List.mem_cons_of_mem _ hx2)).2⟩) (by omega)
    simp only [List.length_cons]; omega
theorem twos_le : ∀ t : List Int, (twos t).length * 2 ≤ t.length := by
  intro t
  match t with
  | [] => simp [twos]
  | [x] => simp [twos]
  | x :: y :: t =>
    have := twos_le t
    simp only [twos, List.length_cons]; omega
theorem col_rects_len {c : List Int} (h : ColOk c) (a b : Int) : (rectsOf a b c).length ≤ 1048576 := by
  have h1 := asc_len (lo := 0) (hi := 1048576) h.asc h.gr (by omega)
  have h2 := twos_le c
  have h3 : (rectsOf a b c).length = (twos c).length := by simp [rectsOf]
  omega
/-- a row that another row's turning leaves. -/
theorem irow_kept {w w' : World} {A : Option Addr} {S : List Int} {row : Option Nat} (h : IRow w A S) (hg : w.grownBy w' row) (hne : ∀ g o, A = some ⟨g, o, none⟩ → some g ≠ row) : IRow w' A S := fun h0 => by
  obtain ⟨b, off, rfl, hl, hc⟩ := h h0
  refine ⟨b, off, rfl, Nat.lt_of_lt_of_le hl hg.size, fun j hj => ?_⟩
  have := hg.block b hl (hne b off rfl)
  rw [← hc j hj]
  simp [World.cell?, this]
end Go.Proofs.Ytdnoadngfkiabaa
