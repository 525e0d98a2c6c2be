/-
  Contracts of the program's layer 6 (8): the two sorts that form calls.
-/
import Derived.Test.YtkjblmfmaenllaaHl
import Derived.Test.YtkjblmfmaenllaaWs
set_option linter.unusedVariables false
set_option maxRecDepth 100000
namespace Go.Proofs.Ytkjblmfmaenllaa
open Go.RowKit Go.Shelf Go.Lib Go.Sort

theorem grownBy_sort {w : World} {n g : Nat} {f : Array Value → Array Value} {os : Array Obj} : w.grownBy (grow (mapBlock (Sort.ahead w n) g f) os) (some g) := by
  refine ⟨rfl, rfl, rfl, by simp [grow, mapBlock, Sort.ahead], fun k hk hne => ?_⟩
  rw [heap_grow_old _ _ (by simp [mapBlock, Sort.ahead]; exact hk)]
  have : k ≠ g := fun e => hne (by rw [e])
  simp [mapBlock, Sort.ahead, Array.getElem?_modify]; intro e; exact absurd e.symm this
theorem sort_cell {w : World} {n g : Nat} {d0 d : Array Int} {os : Array Obj} (h0 : Holds (Value.int .i64) w g 0 d0) (hs : d.size = d0.size) (hg : g < w.heap.size) (j : Nat) (hj : j < d.size) : (grow (putRow (Value.int .i64) (Sort.ahead w n) g 0 d) os).cell? ⟨g, j, none⟩ = some (.int .i64 d[j]!) := by
  rw [cell?_grow _ _ _ (by simpa using hg)]
  have := cell?_putRow (Value.int .i64) (Sort.ahead w n) g 0 d0 d h0 hs j hj
  rwa [Nat.zero_add] at this
theorem gsort_any (B g cap : Nat) (l : List Int) (w : World) (h : w.ownsRow B 3 1 (.slice (some ⟨g, 0, none⟩) l.length cap) l.length (icells l)) (hl : l.length ≤ 1099511627776) :
    Calls Try.prog 63 #[.slice (some ⟨g, 0, none⟩) l.length cap] w fun e w' => e = .returned (.tuple #[]) ∧ ∃ S : List Int, S.Perm l ∧ SortN S ∧ (∀ j (h : j < S.length), w'.cell? ⟨g, j, none⟩ = some (.int .i64 S[j])) ∧ w.grownBy w' (some g) := by
  have hg : g < w.heap.size := (h.lt g rfl).2
  have hH : Holds (Value.int .i64) w g 0 l.toArray := fun j hj => by
    have hj' : j < l.length := by simpa using hj
    refine ⟨?_, h.frozenAt _⟩
    rw [Nat.zero_add, h.cellAt j (by omega)]
    simp [icells, hj']
  refine (Go.Proofs.Try.slices_Sort_int g 0 cap l w hH hg (by omega)).mono ?_
  rintro e w' ⟨rfl, n, os, rfl⟩
  have hp := List.mergeSort_perm l (fun x y => decide (x ≤ y))
  refine ⟨rfl, l.mergeSort fun x y => decide (x ≤ y), hp, ?_, fun j hj => ?_, grownBy_sort⟩
  · have hs := List.pairwise_mergeSort (le := fun x y : Int => decide (x ≤ y)) (fun a b c h1 h2 => by simp at *; omega) (fun a b => by simp; omega) l
    intro i j hi hj hij
    rcases Nat.lt_or_ge i j with hlt | hge
    · have := List.pairwise_iff_getElem.1 hs i j hi hj hlt
      simpa using this
    · obtain rfl : i = j := by omega
      exact Int.le_refl _
  · rw [sort_cell hH (by simp [hp.length_eq]) hg j (by simpa using hj)]
    rw [getElem!_pos _ j (by simpa using hj)]; simp

instance : Inhabited Ed := ⟨⟨0, 0, 0, 0, 0⟩⟩
def encE (e : Ed) : List Value := [.int .i64 e.x0, .int .i64 e.x1, .int .i64 e.y, .int .i64 (e.l : Int), .int .i64 e.s]
def ecells (E : List Ed) : List Value := E.flatMap encE
theorem ecells_len (E : List Ed) : (ecells E).length = E.length * 5 := by
  induction E with
  | nil => rfl
  | cons e E ih => show (_ :: _ :: _ :: _ :: _ :: ecells E).length = _; simp [ih]; omega
theorem ecells_append (E F : List Ed) : ecells (E ++ F) = ecells E ++ ecells F := by simp [ecells]
theorem ecells_one (E : List Ed) : ∀ u ∈ ecells E, u.oneCell' = true := by
  intro u hu
  obtain ⟨e, _, hu⟩ := List.mem_flatMap.1 hu
  simp [encE] at hu
  rcases hu with rfl | rfl | rfl | rfl | rfl <;> rfl
theorem ecells_at : ∀ (E : List Ed) (t : Nat), t < E.length * 5 → (ecells E)[t]? = some ((encE E[t / 5]!)[t % 5]!) := by
  intro E
  induction E with
  | nil => intro t h; simp at h
  | cons e E ih =>
    intro t h
    match t with
    | 0 => rfl
    | 1 => rfl
    | 2 => rfl
    | 3 => rfl
    | 4 => rfl
    | t + 5 =>
      have h' : t < E.length * 5 := by simp at h; omega
      show (ecells E)[t]? = _
      rw [ih t h', show (t + 5) / 5 = t / 5 + 1 by omega, show (t + 5) % 5 = t % 5 by omega]
      simp
theorem ltE (x y : Ed) : ltOf (fun x y : Ed => Lib.compareInt x.y y.y) x y = decide (x.y < y.y) := by
  unfold ltOf Lib.compareInt
  by_cases h1 : x.y < y.y
  · simp [h1]
  · by_cases h2 : y.y < x.y <;> simp [h1, h2]
theorem swoE : SWO (ltOf fun x y : Ed => Lib.compareInt x.y y.y) where
  irrefl x := by rw [ltE]; simp
  trans x y z h1 h2 := by rw [ltE] at *; simp at *; omega
  ntrans x y z h1 h2 := by rw [ltE] at *; simp at *; omega
set_option maxHeartbeats 2000000 in
theorem gformC_any (x y : Ed) (W : World) : Calls Try.prog 85 #[.agg #[.int .i64 x.x0, .int .i64 x.x1, .int .i64 x.y, .int .i64 (x.l : Int), .int .i64 x.s], .agg #[.int .i64 y.x0, .int .i64 y.x1, .int .i64 y.y, .int .i64 (y.l : Int), .int .i64 y.s]] W fun e w' => e = .returned (.int .i64 (Lib.compareInt x.y y.y)) ∧ ∃ q os', w' = grow (W.drewN q) os' := by
  have hcon := fun W' => Go.Proofs.Try.cmp_Compare_int x.y y.y W'
  generalize Lib.compareInt x.y y.y = r at hcon ⊢
  go_enter Try.func85, Try.ntmps85
  go_wp2_with (go_at_call 86; refine (hcon _).mono ?_; rintro e w' ⟨rfl, rfl⟩)
  go_ret
  exact ⟨rfl, 0, _, by rw [alloc_eq_grow, alloc_eq_grow, grow_grow]; rfl⟩
theorem gsortf_any (B g cap : Nat) (E : List Ed) (w : World) (h : w.ownsRow B 110 5 (.slice (some ⟨g, 0, none⟩) E.length cap) E.length (ecells E)) (hl : E.length ≤ 1099511627776) :
    Calls Try.prog 84 #[.slice (some ⟨g, 0, none⟩) E.length cap, .func (.func 85) #[] #[]] w fun e w' => e = .returned (.tuple #[]) ∧ ∃ E' : List Ed, E.Perm E' ∧ SortE E' ∧ (∀ j (h : j < E'.length), w'.cell? ⟨g, j * 5, none⟩ = some (.int .i64 E'[j].x0) ∧ w'.cell? ⟨g, j * 5 + 1, none⟩ = some (.int .i64 E'[j].x1) ∧ w'.cell? ⟨g, j * 5 + 2, none⟩ = some (.int .i64 E'[j].y) ∧ w'.cell? ⟨g, j * 5 + 3, none⟩ = some (.int .i64 (E'[j].l : Int)) ∧ w'.cell? ⟨g, j * 5 + 4, none⟩ = some (.int .i64 E'[j].s)) ∧ w.grownBy w' (some g) := by
  have hg : g < w.heap.size := (h.lt g rfl).2
  have eg : ∀ args w, (callFunc 85 args).run Try.prog w = .ok (.enter 85 args) w := enters_of Try.func85 (by kernel_rfl) rfl
  have hH : HoldsK encE 5 w g 0 E.toArray := fun j hj => by
    have hj' : j < E.length * 5 := by simpa using hj
    refine ⟨?_, h.frozenAt _⟩
    rw [Nat.zero_add, h.cellAt j hj', ecells_at E j hj', get_flatK _ _ _ _ (by simpa using hj')]
    simp [id]
  have hcmp : CmpLays Try.prog 85 #[] encE 5 (fun x y : Ed => Lib.compareInt x.y y.y) g 0 E.toArray.size w := fun _ _ _ _ x y => gformC_any x y _
  have hcon := AnyQ.slices_SortFunc Go.Proofs.Try.laysSlF06_f84 5 Try.isAgg110 Try.sizeOf110 encE (fun _ => rfl) (fun x v hv => by simp [encE] at hv; rcases hv with rfl | rfl | rfl | rfl | rfl <;> rfl) (fun x y : Ed => Lib.compareInt x.y y.y) swoE 85 #[] g 0 cap E.toArray w eg hcmp hH hg (by simp; omega)
  change Calls Try.prog 84 _ _ _ at hcon
  rw [show E.toArray.size = E.length from by simp] at hcon
  refine hcon.mono ?_
  rintro e w' ⟨rfl, d', n, os, hp, hs, rfl⟩
  obtain ⟨p1, _, p3⟩ := hp
  have hlen : d'.size = E.length := by simpa using p1
  have e1 : (d'.extract 0 E.length).toList = d'.toList := by rw [← hlen]; simp
  have e2 : (E.toArray.extract 0 E.length).toList = E := by simp
  rw [e1, e2] at p3
  have hHold : HoldsK encE 5 (sortWorldK encE 5 w g 0 n d' os) g 0 d' := holdsK_grow _ _ _ _ _ _ _ (by simp [putRowK]; exact hg) (holdsK_putRowK _ _ _ _ _ _ _ (holdsK_ahead _ _ _ _ _ _ _ hH) (by simp [hlen]))
  refine ⟨rfl, d'.toList, p3.symm, ?_, fun j hj => ?_, grownBy_sort⟩
  · intro i j hi hj hij
    simp only [Array.length_toList] at hi hj
    rcases Nat.lt_or_ge i j with hlt | hge
    · have := hs i j (Nat.zero_le _) hlt (by omega)
      rw [ltE, getElem!_pos _ j hj, getElem!_pos _ i hi] at this
      simp only [decide_eq_false_iff_not, Int.not_lt] at this
      simpa using this
    · obtain rfl : i = j := by omega
      exact Int.le_refl _
  · simp only [Array.length_toList] at hj
    have c := fun i (hi : i < 5) => (hHold (j * 5 + i) (by simp; omega)).1
    have f := fun i (hi : i < 5) => get_flatK encE 5 d' (j * 5 + i) (by omega)
    have d := fun i (hi : i < 5) => show (j * 5 + i) / 5 = j ∧ (j * 5 + i) % 5 = i by omega
    have key : ∀ i, i < 5 → (sortWorldK encE 5 w g 0 n d' os).cell? ⟨g, j * 5 + i, none⟩ = some ((encE d'[j])[i]!) := fun i hi => by
      have := c i hi
      rw [f i hi, (d i hi).1, (d i hi).2, Nat.zero_add, getElem!_pos d' j hj] at this
      exact this
    simp only [Array.getElem_toList]
    exact ⟨key 0 (by omega), key 1 (by omega), key 2 (by omega), key 3 (by omega), key 4 (by omega)⟩
end Go.Proofs.Ytkjblmfmaenllaa
