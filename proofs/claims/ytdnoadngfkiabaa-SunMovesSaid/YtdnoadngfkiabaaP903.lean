/-
  Contracts of the reference of layer 6 (2): what combine's contracts say.
  Contracts of the program's layer 6 (4): slices of rectangles that the call made; the rows that column works on.
  Contracts of the program's layer 6 (1): firstSlab, lastSlab, continues with its closure, slices.EqualFunc at it.
  Contracts of the program's layer 6 (2): isColumn.
-/
import Derived.Test.YtdnoadngfkiabaaP901
import Derived.BigQuiet
import Derived.Laws.AppendOwn
import Derived.Test.YtdnoadngfkiabaaP902
import Derived.Test.YtdnoadngfkiabaaP900
import Derived.Deep.RegionHeld3
import Derived.Deep.RegionLaw
set_option linter.unusedVariables false
set_option maxRecDepth 100000
namespace Go.Proofs.Ytdnoadngfkiabaa
open Go.RowKit

theorem infoInt : (Try.prog.info? 3).map (fun i => (i.zero, i.size, i.bytes)) = some (some (.int .i64 0), 1, 8) := by kernel_rfl
/-- a slice of ints that the call made, and nothing that was there has turned. -/
structure OwnI (v : Value) (l : List Int) (w wr : World) : Prop where
  own : wr.ownsRow w.heap.size 3 1 v l.length (icells l)
  bel : Below w.heap.size w wr
theorem OwnI.drewN {v : Value} {l : List Int} {w wr : World} (h : OwnI v l w wr) (n : Nat) : OwnI v l w (wr.drewN n) := by
  refine ⟨?_, below_drewN h.bel n⟩
  obtain ⟨h1, h2⟩ := h.own
  exact ⟨h1, h2⟩
end Go.Proofs.Ytdnoadngfkiabaa
namespace Go.Proofs.Ytdnoadngfkiabaa
open Go.RowKit

theorem RRow.some {w : World} {b o : Nat} {l : List Rc} (h : RRow w (Option.some ⟨b, o, none⟩) l) : 0 < l.length → b < w.heap.size ∧ ∀ j (h : j < l.length), w.cell? ⟨b, o + j * 4, none⟩ = some (.int .i64 l[j].X0) ∧ w.cell? ⟨b, o + j * 4 + 1, none⟩ = some (.int .i64 l[j].Y0) ∧ w.cell? ⟨b, o + j * 4 + 2, none⟩ = some (.int .i64 l[j].X1) ∧ w.cell? ⟨b, o + j * 4 + 3, none⟩ = some (.int .i64 l[j].Y1) := fun h0 => by
  obtain ⟨b', o', e, hb, hc⟩ := h h0
  simp only [Option.some.injEq, Addr.mk.injEq, and_true] at e
  obtain ⟨rfl, rfl⟩ := e
  exact ⟨hb, hc⟩
theorem RRow.take {w : World} {A : Option Addr} {l : List Rc} (h : RRow w A l) (n : Nat) : RRow w A (l.take n) := fun h0 => by
  rw [List.length_take] at h0
  obtain ⟨b, o, rfl, hb, hc⟩ := h (by omega)
  exact ⟨b, o, rfl, hb, fun j hj => by rw [List.length_take] at hj; simpa using hc j (by omega)⟩
theorem RRow.drop {w : World} {b o : Nat} {l : List Rc} (h : RRow w (Option.some ⟨b, o, none⟩) l) (n : Nat) : RRow w (Option.some ⟨b, o + n * 4, none⟩) (l.drop n) := fun h0 => by
  rw [List.length_drop] at h0
  obtain ⟨hb, hc⟩ := h.some (by omega)
  refine ⟨b, o + n * 4, rfl, hb, fun j hj => ?_⟩
  rw [List.length_drop] at hj
  have := hc (n + j) (by omega)
  rw [List.getElem_drop, show o + n * 4 + j * 4 = o + (n + j) * 4 by omega]
  exact this
theorem RRow.nil (w : World) (A : Option Addr) : RRow w A [] := fun h => absurd h (by simp)
theorem infoRect : (Try.prog.info? 43).map (fun i => (i.zero, i.size, i.bytes)) = some (some (.agg #[.int .i64 0, .int .i64 0, .int .i64 0, .int .i64 0]), 4, 32) := by kernel_rfl
theorem infoEdge : (Try.prog.info? 97).map (fun i => (i.zero, i.size, i.bytes)) = some (some (.agg #[.int .i64 0, .int .i64 0, .int .i64 0, .int .i64 0, .int .i64 0]), 5, 40) := by kernel_rfl
/-- a slice's own block is one of another world, too, where that block is. -/
theorem own_stays {w w' : World} {B e size n : Nat} {v : Value} {xs : List Value} (h : w.ownsRow B e size v n xs) (hk : ∀ g, v.ownBlock = some g → w'.heap[g]? = w.heap[g]?) : w'.ownsRow B e size v n xs := by
  obtain ⟨h1, h2⟩ := h
  refine ⟨h1, ?_⟩
  rcases h2 with ⟨rfl, h3⟩ | ⟨g, cap, cur, rfl, hB, hg, h4⟩
  · exact Or.inl ⟨rfl, h3⟩
  · exact Or.inr ⟨g, cap, cur, rfl, hB, by rw [hk g rfl]; exact hg, h4⟩
theorem own_go {w w' : World} {B e size n : Nat} {v : Value} {xs : List Value} (h : w.ownsRow B e size v n xs) (hb : Below w.heap.size w w') : w'.ownsRow B e size v n xs :=
  own_stays h (fun g hg => hb.block g (h.lt g hg).2)
theorem own_base {w : World} {B B' e size n : Nat} {v : Value} {xs : List Value} (h : w.ownsRow B e size v n xs) (hB : B' ≤ B) : w.ownsRow B' e size v n xs := by
  obtain ⟨h1, h2⟩ := h
  refine ⟨h1, ?_⟩
  rcases h2 with h2 | ⟨g, cap, cur, rfl, hB2, h4⟩
  · exact Or.inl h2
  · exact Or.inr ⟨g, cap, cur, rfl, Nat.le_trans hB hB2, h4⟩
theorem set_other (wr : World) (a : Addr) (x : Value) (g : Nat) (h : g ≠ a.block) : (wr.setCell a x).heap[g]? = wr.heap[g]? := by
  simp [World.setCell, Array.getElem?_modify]; intro e; exact absurd e.symm h
def rcells (l : List Rc) : List Value := l.flatMap fun r => [.int .i64 r.X0, .int .i64 r.Y0, .int .i64 r.X1, .int .i64 r.Y1]
theorem rcells_len (l : List Rc) : (rcells l).length = l.length * 4 := by
  induction l with
  | nil => rfl
  | cons r l ih => show (_ :: _ :: _ :: _ :: rcells l).length = _; simp [ih]; omega
theorem rcells_append (l m : List Rc) : rcells (l ++ m) = rcells l ++ rcells m := by simp [rcells]
theorem rcells_at : ∀ (l : List Rc) (j : Nat) (h : j < l.length), (rcells l)[j * 4]? = some (.int .i64 l[j].X0) ∧ (rcells l)[j * 4 + 1]? = some (.int .i64 l[j].Y0) ∧ (rcells l)[j * 4 + 2]? = some (.int .i64 l[j].X1) ∧ (rcells l)[j * 4 + 3]? = some (.int .i64 l[j].Y1) := by
  intro l
  induction l with
  | nil => intro j h; simp at h
  | cons r l ih =>
    intro j h
    cases j with
    | zero => exact ⟨rfl, rfl, rfl, rfl⟩
    | succ j =>
      have := ih j (by simpa using h)
      rw [show (j + 1) * 4 = j * 4 + 1 + 1 + 1 + 1 by omega]
      exact this
theorem rcells_one : ∀ (l : List Rc), ∀ u ∈ rcells l, u.oneCell' = true := by
  intro l u hu
  obtain ⟨r, _, hu⟩ := List.mem_flatMap.1 hu
  simp at hu
  rcases hu with rfl | rfl | rfl | rfl <;> rfl
/-- the cells with one side turned. -/
theorem rcells_set : ∀ (l : List Rc) (j : Nat) (h : j < l.length) (x : Int), (rcells l).set (j * 4 + 2) (.int .i64 x) = rcells (l.set j ⟨l[j].X0, l[j].Y0, x, l[j].Y1⟩) ∧ (rcells l).set (j * 4 + 3) (.int .i64 x) = rcells (l.set j ⟨l[j].X0, l[j].Y0, l[j].X1, x⟩) := by
  intro l
  induction l with
  | nil => intro j h; simp at h
  | cons r l ih =>
    intro j h x
    cases j with
    | zero => exact ⟨rfl, rfl⟩
    | succ j =>
      have := ih j (by simpa using h) x
      rw [show (j + 1) * 4 + 2 = (j * 4 + 2) + 1 + 1 + 1 + 1 by omega, show (j + 1) * 4 + 3 = (j * 4 + 3) + 1 + 1 + 1 + 1 by omega]
      show _ :: _ :: _ :: _ :: (rcells l).set _ _ = _ ∧ _ :: _ :: _ :: _ :: (rcells l).set _ _ = _
      rw [this.1, this.2]
      exact ⟨rfl, rfl⟩
/-- a slice that a call made, as a list of rectangles. -/
theorem own_rects {w : World} {B : Nat} {v : Value} {l : List Rc} (h : w.ownsRow B 43 4 v l.length (rcells l)) :
    ∃ A cap, v = .slice A l.length cap ∧ RRow w A l ∧ l.length ≤ cap ∧ cap ≤ 9223372036854775807 ∧ (0 < l.length → ∃ g, A = some ⟨g, 0, none⟩ ∧ B ≤ g ∧ g < w.heap.size) ∧ (A = none → cap = 0) := by
  have hh := h
  obtain ⟨h1, h2⟩ := h
  rcases h2 with ⟨rfl, h3⟩ | ⟨g, cap, cur, rfl, hB, hg, h4⟩
  · rw [h3]
    exact ⟨none, 0, rfl, fun h => by omega, Nat.le_refl _, by omega, fun h => absurd h (Nat.lt_irrefl _), fun _ => rfl⟩
  · have hlt : g < w.heap.size := by
      rcases Nat.lt_or_ge g w.heap.size with hlt | hge
      · exact hlt
      · rw [Array.getElem?_eq_none hge] at hg; cases hg
    refine ⟨_, cap, rfl, fun h0 => ⟨g, 0, rfl, hlt, fun j hj => ?_⟩, ?_, ?_, fun _ => ⟨g, rfl, hB, hlt⟩, fun h => by cases h⟩
    · have c := fun i (hi : i < l.length * 4) => World.ownsRow.cellAt hh i hi
      obtain ⟨e0, e1, e2, e3⟩ := rcells_at l j hj
      rw [Nat.zero_add]
      exact ⟨(c _ (by omega)).trans e0, (c _ (by omega)).trans e1, (c _ (by omega)).trans e2, (c _ (by omega)).trans e3⟩
    · exact h4.1
    · have := h4.2.1; unfold maxLen at this; omega
end Go.Proofs.Ytdnoadngfkiabaa
namespace Go.Proofs.Ytdnoadngfkiabaa
open Go.RowKit


def FirstIs (A : Option Addr) (cap : Nat) (l : List Rc) (w : World) (e : Ending) (w' : World) : Prop := ∃ n q, FirstAt l n ∧ e = .returned (.slice A n cap) ∧ w' = w.drewN q
set_option maxHeartbeats 8000000 in
theorem gfirst_any (A : Option Addr) (cap : Nat) (l : List Rc) (w : World) (h1 : RRow w A l) (h0 : 0 < l.length) (hl : l.length ≤ 1099511627776) (hcap : l.length ≤ cap) :
    Calls Try.prog 61 #[.slice A l.length cap] w (FirstIs A cap l w) := by
  obtain ⟨b1, o1, rfl, hb1, hv1⟩ := h1 h0
  obtain ⟨z0, z1, z2, z3⟩ := hv1 0 h0
  simp only [Nat.zero_mul, Nat.add_zero] at z0 z2
  clear z1 z3 h1
  have HV := Lib.hid hv1; clear hv1
  have ez : ∃ z, z = l[0] := ⟨_, rfl⟩
  obtain ⟨z, hz⟩ := ez
  rw [← hz] at z0 z2
  have HZ := Lib.hid hz; clear hz
  have FIRST0 : ∀ j (h : j < l.length), j < 1 → l[j].X0 = z.X0 ∧ l[j].X1 = z.X1 := fun j h hj => by
    obtain rfl : j = 0 := by omega
    rw [HZ.out]; exact ⟨rfl, rfl⟩
  have FIRST := Lib.hid FIRST0; clear FIRST0
  go_enter Try.func61, Try.ntmps61
  go_wp2
  go_loopw [3] (fun i wr => ∃ (k q : Nat), 1 ≤ k ∧ k ≤ l.length ∧ i = .int .i64 k ∧ wr = w.drewN q ∧ ∀ j (h : j < l.length), j < k → l[j].X0 = z.X0 ∧ l[j].X1 = z.X1) (fun i _ => l.length - (intOf i).toNat)
  case atStart => exact ⟨1, 0, Nat.le_refl _, h0, rfl, rfl, FIRST.out⟩
  case round =>
    obtain ⟨k, q, hk1, hk, rfl, rfl, ht⟩ := hrel
    have HT := Lib.hid ht; clear ht
    have i0 : (0 : Int) ≤ (k : Int) := by omega
    by_cases hlt : k < l.length
    · obtain ⟨x0, x1, x2, x3⟩ := HV.out k hlt
      clear x1 x3
      have i1 : (k : Int) < (l.length : Int) := by omega
      have i2 : (0 : Int) < (l.length : Int) := by omega
      have eu : ∃ u, u = l[k] := ⟨_, rfl⟩
      obtain ⟨u, hu⟩ := eu
      rw [← hu] at x0 x2
      have HU := Lib.hid hu; clear hu
      by_cases c0 : u.X0 = z.X0
      · have d0 : (u.X0 == z.X0) = true := by simp [c0]
        have C0 := Lib.hid c0; clear c0
        by_cases c1 : u.X1 = z.X1
        · have d1 : (u.X1 == z.X1) = true := by simp [c1]
          have C1 := Lib.hid c1; clear c1
          go_wp2_with fail
          go_quiet (fail)
          go_wp2
          go_roundw
          case rel => exact ⟨k + 1, _, by omega, by omega, by go_num, rfl, fun j h hj => by
            by_cases e : j < k
            · exact HT.out j h e
            · obtain rfl : j = k := by omega
              rw [← HU.out]; exact ⟨C0.out, C1.out⟩⟩
          case measure => simp [intOf]; omega
        · have d1 : (u.X1 == z.X1) = false := by simp [c1]
          have C1 := Lib.hid c1; clear c1
          have C : FirstAt l k := ⟨hk1, hk, fun j h hj => by rw [← HZ.out]; exact HT.out j h hj, fun h => by rw [← HZ.out, ← HU.out]; exact fun q => C1.out q.2⟩
          have C' := Lib.hid C; clear C
          go_wp2_with fail
          go_quiet (fail)
          go_wp2
          go_ret
          exact ⟨k, _, C'.out, rfl, rfl⟩
      · have d0 : (u.X0 == z.X0) = false := by simp [c0]
        have C0 := Lib.hid c0; clear c0
        have C : FirstAt l k := ⟨hk1, hk, fun j h hj => by rw [← HZ.out]; exact HT.out j h hj, fun h => by rw [← HZ.out, ← HU.out]; exact fun q => C0.out q.1⟩
        have C' := Lib.hid C; clear C
        go_wp2_with fail
        go_quiet (fail)
        go_wp2
        go_ret
        exact ⟨k, _, C'.out, rfl, rfl⟩
    · obtain rfl : k = l.length := by omega
      have C : FirstAt l l.length := ⟨hk1, hk, fun j h hj => by rw [← HZ.out]; exact HT.out j h hj, fun h => absurd h (Nat.lt_irrefl _)⟩
      have C' := Lib.hid C; clear C
      go_wp2_with fail
      go_quiet (fail)
      go_wp2
      go_ret
      exact ⟨l.length, _, C'.out, rfl, rfl⟩


def LastIs (b o : Nat) (cap : Nat) (l : List Rc) (w : World) (e : Ending) (w' : World) : Prop := ∃ n q, LastAt l n ∧ n < l.length ∧ e = .returned (.slice (some ⟨b, o + n * 4, none⟩) (l.length - n) (cap - n)) ∧ w' = w.drewN q
set_option maxHeartbeats 8000000 in
theorem glast_any (b1 o1 : Nat) (cap : Nat) (l : List Rc) (w : World) (hv1 : ∀ j (h : j < l.length), w.cell? ⟨b1, o1 + j * 4, none⟩ = some (.int .i64 l[j].X0)) (h0 : 0 < l.length) (hl : l.length ≤ 1099511627776) (hcap : l.length ≤ cap) (hcap2 : cap ≤ 9223372036854775807) :
    Calls Try.prog 101 #[.slice (some ⟨b1, o1, none⟩) l.length cap] w (LastIs b1 o1 cap l w) := by
  have z0 := hv1 (l.length - 1) (by omega)
  have HV := Lib.hid hv1; clear hv1
  have ez : ∃ z, z = (l[l.length - 1]'(by omega)).X0 := ⟨_, rfl⟩
  obtain ⟨z, hz⟩ := ez
  rw [← hz] at z0
  have HZ := Lib.hid hz; clear hz
  have q1 : IntKind.i64.wrap ((l.length : Int) - 1) = (l.length : Int) - 1 := IntWalk.i64_in _ (by omega)
  have q2 : (0 : Int) ≤ (l.length : Int) - 1 := by omega
  have q3 : ((l.length : Int) - 1).toNat = l.length - 1 := by omega
  have q4 : (l.length : Int) - 1 < (l.length : Int) := by omega
  have Q1 := Lib.hid q1; have Q2 := Lib.hid q2; have Q3 := Lib.hid q3; have Q4 := Lib.hid q4; clear q1 q2 q3 q4
  go_enter Try.func101, Try.ntmps101
  go_wp2
  go_loopw [3] (fun i wr => ∃ (k q : Nat), k ≤ l.length ∧ i = .int .i64 k ∧ wr = w.drewN q ∧ ∀ j (h : j < l.length), k ≤ j → l[j].X0 = z) (fun i _ => (intOf i).toNat)
  case atStart => exact ⟨l.length, 0, Nat.le_refl _, rfl, rfl, fun j h hj => by omega⟩
  case round =>
    obtain ⟨k, q, hk, rfl, rfl, ht⟩ := hrel
    have HT := Lib.hid ht; clear ht
    cases k with
    | succ k =>
      have x0 := HV.out k (by omega)
      have eu : ∃ u, u = (l[k]'(by omega)).X0 := ⟨_, rfl⟩
      obtain ⟨u, hu⟩ := eu
      rw [← hu] at x0
      have HU := Lib.hid hu; clear hu
      have i0 : decide ((0 : Int) < ((k + 1 : Nat) : Int)) = true := by simp
      have r1 : IntKind.i64.wrap (((k + 1 : Nat) : Int) - 1) = (k : Int) := by rw [show ((k + 1 : Nat) : Int) - 1 = (k : Int) by omega]; exact IntWalk.i64_in _ (by omega)
      have r2 : (0 : Int) ≤ (k : Int) := by omega
      have r3 : (k : Int) < (l.length : Int) := by omega
      by_cases c0 : u = z
      · have d0 : (u == z) = true := by simp [c0]
        have C0 := Lib.hid c0; clear c0
        have q1 := Q1.out; have q2 := Q2.out; have q3 := Q3.out; have q4 := Q4.out
        go_wp2_with fail
        go_quiet (fail)
        clear q1 q2 q3 q4
        go_wp2
        go_roundw
        case rel => exact ⟨k, _, by omega, by first | rfl | go_num, rfl, fun j h hj => by
            by_cases e : k + 1 ≤ j
            · exact HT.out j h e
            · obtain rfl : j = k := by omega
              rw [← HU.out]; exact C0.out⟩
        case measure => simp [intOf]
      · have d0 : (u == z) = false := by simp [c0]
        have hlk : k + 1 < l.length := by
          rcases Nat.lt_or_ge (k + 1) l.length with h | h
          · exact h
          · exfalso; apply c0; rw [HU.out, HZ.out]; congr 2 <;> omega
        have C : LastAt l (k + 1) := ⟨hk, fun j h hj => by rw [← HZ.out]; exact HT.out j h hj, fun h => by rw [← HZ.out]; simp only [Nat.add_sub_cancel]; rw [← HU.out]; exact c0⟩
        have C' := Lib.hid C; clear C c0
        have q1 := Q1.out; have q2 := Q2.out; have q3 := Q3.out; have q4 := Q4.out
        have s1 : ((k + 1 : Nat) : Int) ≤ (l.length : Int) := by omega
        have s2 : (l.length : Int) ≤ (cap : Int) := by omega
        have s3 : ¬ (k + 1 = cap) := by omega
        go_wp2_with fail
        go_quiet (fail)
        clear q1 q2 q3 q4
        go_wp2
        go_ret
        exact ⟨k + 1, _, C'.out, hlk, by first | rfl | simp [Addr.add], rfl⟩
    | zero =>
      have C : LastAt l 0 := ⟨hk, fun j h hj => by rw [← HZ.out]; exact HT.out j h hj, fun h => absurd h (Nat.lt_irrefl _)⟩
      have C' := Lib.hid C; clear C
      have s3 : ¬ (0 = cap) := by omega
      go_wp2_with fail
      go_quiet (fail)
      go_wp2
      go_ret
      exact ⟨0, _, C'.out, h0, by first | rfl | simp [Addr.add], rfl⟩


set_option maxHeartbeats 4000000 in
theorem gcontC_any (a b : Rc) (w : World) : Calls Try.prog 81 #[.agg #[.int .i64 a.X0, .int .i64 a.Y0, .int .i64 a.X1, .int .i64 a.Y1], .agg #[.int .i64 b.X0, .int .i64 b.Y0, .int .i64 b.X1, .int .i64 b.Y1]] w (BlIs (yyB a b) w) := by
  by_cases c0 : a.Y0 = b.Y0
  · have d0 : (a.Y0 == b.Y0) = true := by simp [c0]
    by_cases c1 : a.Y1 = b.Y1
    · have d1 : (a.Y1 == b.Y1) = true := by simp [c1]
      rw [show yyB a b = true from decide_eq_true ⟨c0, c1⟩]
      clear c0 c1
      go_enter Try.func81, Try.ntmps81
      go_wp2
      go_ret
      exact ⟨rfl, by (repeat' first | exact Below.refl _ _ | assumption | (apply below_drewN) | (refine Below.setCell ?_ (by (try simp); (try omega)) _) | (refine Below.alloc ?_ (by (try simp); (try omega)) _) | (refine Below.trans ?_ (Below.mono (Hid.out (by assumption)) (by (try simp); (try omega)))))⟩
    · have d1 : (a.Y1 == b.Y1) = false := by simp [c1]
      rw [show yyB a b = false from decide_eq_false (fun h => c1 h.2)]
      clear c0 c1
      go_enter Try.func81, Try.ntmps81
      go_wp2
      go_ret
      exact ⟨rfl, by (repeat' first | exact Below.refl _ _ | assumption | (apply below_drewN) | (refine Below.setCell ?_ (by (try simp); (try omega)) _) | (refine Below.alloc ?_ (by (try simp); (try omega)) _) | (refine Below.trans ?_ (Below.mono (Hid.out (by assumption)) (by (try simp); (try omega)))))⟩
  · have d0 : (a.Y0 == b.Y0) = false := by simp [c0]
    rw [show yyB a b = false from decide_eq_false (fun h => c0 h.1)]
    clear c0
    go_enter Try.func81, Try.ntmps81
    go_wp2
    go_ret
    exact ⟨rfl, by (repeat' first | exact Below.refl _ _ | assumption | (apply below_drewN) | (refine Below.setCell ?_ (by (try simp); (try omega)) _) | (refine Below.alloc ?_ (by (try simp); (try omega)) _) | (refine Below.trans ?_ (Below.mono (Hid.out (by assumption)) (by (try simp); (try omega)))))⟩
theorem yysB_take : ∀ {l m : List Rc} {k : Nat} (h1 : k < l.length) (h2 : k < m.length), yysB (l.take k) (m.take k) = true → yyB l[k] m[k] = true → yysB (l.take (k + 1)) (m.take (k + 1)) = true := by
  intro l
  induction l with
  | nil => intro m k h; simp at h
  | cons a l ih =>
    intro m k h1 h2 h3 h4
    cases m with
    | nil => simp at h2
    | cons b m =>
      cases k with
      | zero => simpa [yysB] using h4
      | succ k =>
        simp only [List.take_succ_cons, yysB, Bool.and_eq_true] at h3 ⊢
        exact ⟨h3.1, ih (by simpa using h1) (by simpa using h2) h3.2 (by simpa using h4)⟩
theorem yysB_at : ∀ {l m : List Rc} {k : Nat} (h1 : k < l.length) (h2 : k < m.length), yysB l m = true → yyB l[k] m[k] = true := by
  intro l
  induction l with
  | nil => intro m k h; simp at h
  | cons a l ih =>
    intro m k h1 h2 h3
    cases m with
    | nil => simp at h2
    | cons b m =>
      simp only [yysB, Bool.and_eq_true] at h3
      cases k with
      | zero => simpa using h3.1
      | succ k => simpa using ih (by simpa using h1) (by simpa using h2) h3.2
theorem yysB_len : ∀ {l m : List Rc}, yysB l m = true → l.length = m.length := by
  intro l
  induction l with
  | nil => intro m h; cases m with
    | nil => rfl
    | cons b m => simp [yysB] at h
  | cons a l ih => intro m h; cases m with
    | nil => simp [yysB] at h
    | cons b m => simp only [yysB, Bool.and_eq_true] at h; simp [ih h.2]
set_option maxHeartbeats 8000000 in
theorem geqf_any (A1 : Option Addr) (c1 : Nat) (A2 : Option Addr) (c2 : Nat) (l m : List Rc) (w : World) (h1 : RRow w A1 l) (h2 : RRow w A2 m) (hl : l.length ≤ 1099511627776) (hm : m.length ≤ 1099511627776) :
    Calls Try.prog 80 #[.slice A1 l.length c1, .slice A2 m.length c2, .func (.func 81) #[] #[]] w (BlIs (yysB l m) w) := by
  have H1 := Lib.hid h1; clear h1
  have H2 := Lib.hid h2; clear h2
  by_cases hlen : l.length = m.length
  · have hll : ((l.length : Int) != (m.length : Int)) = false := by simp [hlen]
    have HB0 := Lib.hid (Below.refl w.heap.size w)
    have HLEN := Lib.hid hlen; clear hlen
    go_enter Try.func80, Try.ntmps80
    go_wp2
    go_loopw [17] (fun i wr => ∃ (k : Nat), k ≤ l.length ∧ i = .int .i64 k ∧ Hid (Below w.heap.size w wr) ∧ yysB (l.take k) (m.take k) = true) (fun i _ => l.length - (intOf i).toNat)
    case atStart => exact ⟨0, Nat.zero_le _, rfl, HB0, rfl⟩
    case round =>
      clear HB0
      obtain ⟨k, hk, rfl, HB, ht⟩ := hrel
      have HT := Lib.hid ht; clear ht
      by_cases hlt : k < l.length
      · obtain ⟨b1, o1, rfl, hb1, hv1⟩ := H1.out (by omega)
        have hk2 : k < m.length := by have := HLEN.out; omega
        obtain ⟨b2, o2, rfl, hb2, hv2⟩ := H2.out (by omega)
        obtain ⟨x0, x1, x2, x3⟩ := hv1 k hlt
        obtain ⟨y0, y1, y2, y3⟩ := hv2 k hk2
        have NEXT := Lib.hid (yysB_take (l := l) (m := m) hlt hk2 HT.out)
        have NO := Lib.hid (fun h : yysB l m = true => yysB_at hlt hk2 h)
        have i0 : (0 : Int) ≤ (k : Int) := by omega
        have i1 : (k : Int) < (l.length : Int) := by omega
        have i2 : (k : Int) < (m.length : Int) := by omega
        clear hv1 hv2
        generalize l[k] = u at *
        generalize m[k] = v at *
        have wc := fun o => HB.out.cell (p := ⟨b1, o, none⟩) hb1
        have wd := fun o => HB.out.cell (p := ⟨b2, o, none⟩) hb2
        have x0 := (wc _).trans x0; have x1 := (wc _).trans x1; have x2 := (wc _).trans x2; have x3 := (wc _).trans x3
        have y0 := (wd _).trans y0; have y1 := (wd _).trans y1; have y2 := (wd _).trans y2; have y3 := (wd _).trans y3
        clear wc wd
        have hbw : b1 < wr.heap.size := Nat.lt_of_lt_of_le hb1 HB.out.size
        have hbw2 : b2 < wr.heap.size := Nat.lt_of_lt_of_le hb2 HB.out.size
        have hbs := HB.out.size
        cases hyy : yyB u v with
        | true =>
          go_wp2_with (go_at_call 81; refine (gcontC_any u v _).mono ?_; rw [hyy]; rintro e w1 ⟨rfl, hb⟩; have HBl := Lib.hid hb; clear hb)
          go_roundw
          case rel => exact ⟨k + 1, by omega, by go_num, Lib.hid (by (repeat' first | exact Below.refl _ _ | assumption | (apply below_drewN) | (refine Below.setCell ?_ (by (try simp); (try omega)) _) | (refine Below.alloc ?_ (by (try simp); (try omega)) _) | (refine Below.trans ?_ (Below.mono (Hid.out (by assumption)) (by (try simp); (try omega)))))), NEXT.out hyy⟩
          case measure => simp [intOf]; omega
        | false =>
          have hno : yysB l m = false := by
            cases h : yysB l m with
            | false => rfl
            | true => rw [NO.out h] at hyy; cases hyy
          have HNO := Lib.hid hno; clear hno
          go_wp2_with (go_at_call 81; refine (gcontC_any u v _).mono ?_; rw [hyy]; rintro e w1 ⟨rfl, hb⟩; have HBl := Lib.hid hb; clear hb)
          go_ret
          exact ⟨by rw [HNO.out]; rfl, by (repeat' first | exact Below.refl _ _ | assumption | (apply below_drewN) | (refine Below.setCell ?_ (by (try simp); (try omega)) _) | (refine Below.alloc ?_ (by (try simp); (try omega)) _) | (refine Below.trans ?_ (Below.mono (Hid.out (by assumption)) (by (try simp); (try omega)))))⟩
      · obtain rfl : k = l.length := by omega
        have he : yysB l m = true := by
          have := HT.out
          rw [List.take_length, HLEN.out, List.take_length] at this
          exact this
        have HE := Lib.hid he; clear he
        go_wp2
        go_ret
        exact ⟨by rw [HE.out]; rfl, HB.out⟩
  · have hll : ((l.length : Int) != (m.length : Int)) = true := by simp; omega
    have hno : yysB l m = false := by
      cases h : yysB l m with
      | false => rfl
      | true => exact absurd (yysB_len h) hlen
    rw [hno]
    clear hno hlen
    go_enter Try.func80, Try.ntmps80
    go_wp2
    go_ret
    exact ⟨rfl, by (repeat' first | exact Below.refl _ _ | assumption | (apply below_drewN) | (refine Below.setCell ?_ (by (try simp); (try omega)) _) | (refine Below.alloc ?_ (by (try simp); (try omega)) _) | (refine Below.trans ?_ (Below.mono (Hid.out (by assumption)) (by (try simp); (try omega)))))⟩
set_option maxHeartbeats 8000000 in
theorem gcont_any (A1 : Option Addr) (c1 : Nat) (A2 : Option Addr) (c2 : Nat) (l m : List Rc) (w : World) (h1 : RRow w A1 l) (h2 : RRow w A2 m) (hl : l.length ≤ 1099511627776) (hm : m.length ≤ 1099511627776) (n1 : 0 < l.length) (n2 : 0 < m.length) :
    Calls Try.prog 63 #[.slice A1 l.length c1, .slice A2 m.length c2] w (BlIs (contB l m l[0].X1 m[0].X0) w) := by
  have HC := Lib.hid (fun w' => fun (hb : Below w.heap.size w w') => geqf_any A1 c1 A2 c2 l m w' (h1.below hb) (h2.below hb) hl hm)
  obtain ⟨b1, o1, rfl, hb1, hv1⟩ := h1 n1
  obtain ⟨b2, o2, rfl, hb2, hv2⟩ := h2 n2
  obtain ⟨x0, x1, x2, x3⟩ := hv1 0 n1
  obtain ⟨y0, y1, y2, y3⟩ := hv2 0 n2
  simp only [Nat.zero_mul, Nat.add_zero] at x2 y0
  clear hv1 hv2 x0 x1 x3 y1 y2 y3 h1 h2
  generalize l[0].X1 = a at *
  generalize m[0].X0 = b at *
  have i1 : (0 : Int) < (l.length : Int) := by omega
  have i2 : (0 : Int) < (m.length : Int) := by omega
  unfold contB
  generalize yysB l m = r at *
  by_cases c : a = b
  · have d : (a == b) = true := by simp [c]
    rw [decide_eq_true c, Bool.true_and]
    clear c
    go_enter Try.func63, Try.ntmps63
    go_wp2_with fail
    go_region_with ((go_at_call 80; refine (HC.out _ (by (repeat' first | exact Below.refl _ _ | assumption | (apply below_drewN) | (refine Below.setCell ?_ (by (try simp); (try omega)) _) | (refine Below.alloc ?_ (by (try simp); (try omega)) _) | (refine Below.trans ?_ (Below.mono (Hid.out (by assumption)) (by (try simp); (try omega))))))).mono ?_; rintro e w1 ⟨rfl, hb⟩; have HBl := Lib.hid hb; clear hb))
    all_goals
      go_wp2
      go_ret
      exact ⟨rfl, by (repeat' first | exact Below.refl _ _ | assumption | (apply below_drewN) | (refine Below.setCell ?_ (by (try simp); (try omega)) _) | (refine Below.alloc ?_ (by (try simp); (try omega)) _) | (refine Below.trans ?_ (Below.mono (Hid.out (by assumption)) (by (try simp); (try omega)))))⟩
  · have d : (a == b) = false := by simp [c]
    rw [decide_eq_false c, Bool.false_and]
    clear c
    go_enter Try.func63, Try.ntmps63
    go_wp2_with fail
    go_quiet (fail)
    go_wp2
    go_ret
    exact ⟨rfl, by (repeat' first | exact Below.refl _ _ | assumption | (apply below_drewN) | (refine Below.setCell ?_ (by (try simp); (try omega)) _) | (refine Below.alloc ?_ (by (try simp); (try omega)) _) | (refine Below.trans ?_ (Below.mono (Hid.out (by assumption)) (by (try simp); (try omega)))))⟩
end Go.Proofs.Ytdnoadngfkiabaa
namespace Go.Proofs.Ytdnoadngfkiabaa
open Go.RowKit

def ColIs (l : List Rc) (w : World) (e : Ending) (w' : World) : Prop := ∃ b : Bool, (b = true ↔ IsColP l) ∧ BlIs b w e w'
def Jx (p : Nat) (u : Rc) (w0 w : World) : Prop := w.cell? ⟨p, 0, none⟩ = some (.int .i64 u.X0) ∧ w.cell? ⟨p, 1, none⟩ = some (.int .i64 u.Y0) ∧ w.cell? ⟨p, 2, none⟩ = some (.int .i64 u.X1) ∧ w.cell? ⟨p, 3, none⟩ = some (.int .i64 u.Y1) ∧ p < w.heap.size ∧ Hid (Below w0.heap.size w0 w)
theorem Jx.go {p : Nat} {u : Rc} {w0 w w' : World} (h : Jx p u w0 w) (hb : Below w.heap.size w w') : Jx p u w0 w' := by
  obtain ⟨h0, h1, h2, h3, h4, h5⟩ := h
  exact ⟨(hb.cell (p := ⟨p, 0, none⟩) h4).trans h0, (hb.cell (p := ⟨p, 1, none⟩) h4).trans h1, (hb.cell (p := ⟨p, 2, none⟩) h4).trans h2, (hb.cell (p := ⟨p, 3, none⟩) h4).trans h3, Nat.lt_of_lt_of_le h4 hb.size, Lib.hid (h5.out.trans (hb.mono h5.out.size))⟩
theorem Jx.drewN {p : Nat} {u : Rc} {w0 w : World} (h : Jx p u w0 w) (n : Nat) : Jx p u w0 (w.drewN n) := h.go (below_drewN (Below.refl _ _) n)
theorem Jx.new {u : Rc} {w0 w : World} (h : Below w0.heap.size w0 w) : Jx w.heap.size u w0 (w.alloc (.cells #[.int .i64 u.X0, .int .i64 u.Y0, .int .i64 u.X1, .int .i64 u.Y1] 43)) := by
  have k := RcAt.new w u _ rfl
  exact ⟨k.cell0, k.cell1, k.cell2, k.cell3, k.lt, Lib.hid (h.alloc h.size _)⟩
def Ix (p : Nat) (u : Rc) (b o : Nat) (v : Int) (w0 w : World) : Prop := w.cell? ⟨p, 0, none⟩ = some (.int .i64 u.X0) ∧ w.cell? ⟨p, 1, none⟩ = some (.int .i64 u.Y0) ∧ w.cell? ⟨p, 2, none⟩ = some (.int .i64 u.X1) ∧ w.cell? ⟨p, 3, none⟩ = some (.int .i64 u.Y1) ∧ w.cell? ⟨b, o, none⟩ = some (.int .i64 v) ∧ b < w.heap.size ∧ p < w.heap.size ∧ Hid (Below w0.heap.size w0 w)
theorem Ix.go {p : Nat} {u : Rc} {b o : Nat} {v : Int} {w0 w w' : World} (h : Ix p u b o v w0 w) (hb : Below w.heap.size w w') : Ix p u b o v w0 w' := by
  obtain ⟨h0, h1, h2, h3, h6, h7, h4, h5⟩ := h
  exact ⟨(hb.cell (p := ⟨p, 0, none⟩) h4).trans h0, (hb.cell (p := ⟨p, 1, none⟩) h4).trans h1, (hb.cell (p := ⟨p, 2, none⟩) h4).trans h2, (hb.cell (p := ⟨p, 3, none⟩) h4).trans h3, (hb.cell (p := ⟨b, o, none⟩) h7).trans h6, Nat.lt_of_lt_of_le h7 hb.size, Nat.lt_of_lt_of_le h4 hb.size, Lib.hid (h5.out.trans (hb.mono h5.out.size))⟩
theorem Ix.drewN {p : Nat} {u : Rc} {b o : Nat} {v : Int} {w0 w : World} (h : Ix p u b o v w0 w) (n : Nat) : Ix p u b o v w0 (w.drewN n) := h.go (below_drewN (Below.refl _ _) n)
theorem Ix.new {u : Rc} {b o : Nat} {v : Int} {w0 w : World} (h : Below w0.heap.size w0 w) (hv : w.cell? ⟨b, o, none⟩ = some (.int .i64 v)) (hb : b < w.heap.size) : Ix w.heap.size u b o v w0 (w.alloc (.cells #[.int .i64 u.X0, .int .i64 u.Y0, .int .i64 u.X1, .int .i64 u.Y1] 43)) := by
  have k := RcAt.new w u _ rfl
  have hg : Below w.heap.size w (w.alloc (.cells #[.int .i64 u.X0, .int .i64 u.Y0, .int .i64 u.X1, .int .i64 u.Y1] 43)) := (Below.refl _ _).alloc (Nat.le_refl _) _
  exact ⟨k.cell0, k.cell1, k.cell2, k.cell3, (hg.cell (p := ⟨b, o, none⟩) hb).trans hv, Nat.lt_of_lt_of_le hb hg.size, k.lt, Lib.hid (h.alloc h.size _)⟩
set_option maxHeartbeats 16000000 in
theorem giscol_any (A : Option Addr) (cap : Nat) (l : List Rc) (w0 : World) (h1 : RRow w0 A l) (hl : l.length ≤ 1099511627776) :
    Calls Try.prog 62 #[.slice A l.length cap] w0 (ColIs l w0) := by
  have H1 := Lib.hid h1; clear h1
  have HB0 := Lib.hid (Below.refl w0.heap.size w0)
  go_enter Try.func62, Try.ntmps62
  go_wp2
  go_loopw [7] (fun i wr => ∃ (k : Nat), k ≤ l.length ∧ i = .int .i64 k ∧ Hid (Below w0.heap.size w0 wr) ∧ ∀ j (h : j < l.length), j < k → ROk l[j] ∧ ∀ h0 : 0 < j, l[j - 1].Y1 < l[j].Y0) (fun i _ => l.length - (intOf i).toNat)
  case atStart => exact ⟨0, Nat.zero_le _, rfl, HB0, fun j h hj => absurd hj (Nat.not_lt_zero _)⟩
  case round =>
    clear HB0
    obtain ⟨k, hk, rfl, HB, ht⟩ := hrel
    have HT := Lib.hid ht; clear ht
    by_cases hlt : k < l.length
    · obtain ⟨b1, o1, rfl, hb1, hv1⟩ := H1.out (by omega)
      obtain ⟨x0, x1, x2, x3⟩ := hv1 k hlt
      have wc := fun o => HB.out.cell (p := ⟨b1, o, none⟩) hb1
      have x0 := (wc _).trans x0; have x1 := (wc _).trans x1; have x2 := (wc _).trans x2; have x3 := (wc _).trans x3
      have hbw : b1 < wr.heap.size := Nat.lt_of_lt_of_le hb1 HB.out.size
      have hbs := HB.out.size
      have i0 : (0 : Int) ≤ (k : Int) := by omega
      have i1 : (k : Int) < (l.length : Int) := by omega
      have eu : ∃ u, u = l[k] := ⟨_, rfl⟩
      obtain ⟨u, hu⟩ := eu
      rw [← hu] at x0 x1 x2 x3
      have HU := Lib.hid hu; clear hu
      by_cases ok : ROk u
      · have oa : rokB ⟨u.X0, u.Y0, u.X1, u.Y1⟩ = true := (rokB_iff u).2 ok
        have OK := Lib.hid ok; clear ok
        by_cases k0 : k = 0
        · clear hv1 wc
          have g0 : decide ((0 : Int) < (k : Int)) = false := by simp; omega
          have g1 : decide (0 < k) = false := by simp; omega
          have K0 := Lib.hid k0; clear k0
          have E0 := Lib.hid (Jx.new (u := u) HB.out)
          go_wp2_with fail
          refine wp_region_held_drew (S := fun w' => w'.cell? ⟨wr.heap.size, 0, none⟩ = some (.int .i64 u.X0) ∧ w'.cell? ⟨wr.heap.size, 1, none⟩ = some (.int .i64 u.Y0) ∧ w'.cell? ⟨wr.heap.size, 2, none⟩ = some (.int .i64 u.X1) ∧ w'.cell? ⟨wr.heap.size, 3, none⟩ = some (.int .i64 u.Y1) ∧ wr.heap.size < w'.heap.size ∧ Hid (Below w0.heap.size w0 w')) (by kernel_rfl) ?_ (fun hHeld => ?_)
          · exact Jx.drewN E0.out 1
          refine wpAnyH_take (i := 0) (oi := { dst := some 12, op := Op.load 43 (Operand.tmp 4), type := 43, pos := "region.go:148", after := #[], guard := none }) (v := ?_) rfl (by kernel_rfl) (by kernel_rfl) (by kernel_rfl) (fun _ _ _ h => h) (Or.inl ⟨by rfl, ?_⟩) (by assumption) ?_
          rotate_left
          · (intro w hSw; (try dsimp only at hSw); go_simp); try with_reducible rfl
          try simp only [Act.put, List.setIfInBounds_toArray, List.set_cons_zero, List.set_cons_succ]
          refine wpAnyH_ready (rs := [1]) (by kernel_rfl) (by simp) ?_
          refine AllReadyH.cons (o := { dst := some 13, op := Op.call { callee := Callee.value (Operand.func 32), args := #[Operand.tmp 12], argTypes := #[43] }, type := 4, pos := "region.go:148", after := #[{ on := 0, ground := Ground.data }], guard := none }) rfl (fun K hK => ?_) AllReadyH.nil
          go_simp
          go_at_call 32
          refine (tright_nd _ _ _ _ _).mono ?_
          rintro e w' ⟨rfl, hb⟩
          rw [oa]
          try go_wp2_with fail
          refine hK.out _ _ (Jx.go ‹_› hb) (fun hHeld2 => ?_)
          clear hK K hHeld hb
          have hHeld := hHeld2; clear hHeld2
          try simp only [Act.put, List.setIfInBounds_toArray, List.set_cons_zero, List.set_cons_succ]
          refine wpAnyH_take (i := 2) (oi := { dst := some 14, op := Op.unOp UnOp.not 4 (Operand.tmp 13), type := 4, pos := "region.go:148", after := #[{ on := 1, ground := Ground.data }], guard := none }) (v := ?_) rfl (by kernel_rfl) (by kernel_rfl) (by kernel_rfl) (fun _ _ _ h => h) (Or.inl ⟨by rfl, ?_⟩) (by assumption) ?_
          rotate_left
          · (intro w hSw; (try dsimp only at hSw); go_simp); try with_reducible rfl
          try simp only [Act.put, List.setIfInBounds_toArray, List.set_cons_zero, List.set_cons_succ]
          refine wpAnyH_take (i := 3) (oi := { dst := some 15, op := Op.move (Operand.tmp 14), type := 4, pos := "region.go:148", after := #[{ on := 2, ground := Ground.data }, { on := 1, ground := Ground.chain }], guard := none }) (v := ?_) rfl (by kernel_rfl) (by kernel_rfl) (by kernel_rfl) (fun _ _ _ h => h) (Or.inl ⟨by rfl, ?_⟩) (by assumption) ?_
          rotate_left
          · (intro w hSw; (try dsimp only at hSw); go_simp); try with_reducible rfl
          try simp only [Act.put, List.setIfInBounds_toArray, List.set_cons_zero, List.set_cons_succ]
          refine wpAnyH_take (i := 4) (oi := { dst := some 16, op := Op.move (Operand.tmp 3), type := 3, pos := "region.go:148", after := #[{ on := 3, ground := Ground.guard }], guard := some (3, false) }) (v := ?_) rfl (by kernel_rfl) (by kernel_rfl) (by kernel_rfl) (fun _ _ _ h => h) (Or.inl ⟨by rfl, ?_⟩) (by assumption) ?_
          rotate_left
          · (intro w hSw; (try dsimp only at hSw); go_simp); try with_reducible rfl
          try simp only [Act.put, List.setIfInBounds_toArray, List.set_cons_zero, List.set_cons_succ]
          refine wpAnyH_take (i := 5) (oi := { dst := some 17, op := Op.binOp BinOp.gtr 3 (Operand.tmp 16) (Operand.const (Value.int IntKind.i64 0)) 3, type := 4, pos := "region.go:148", after := #[{ on := 4, ground := Ground.data }, { on := 3, ground := Ground.guard }], guard := some (3, false) }) (v := ?_) rfl (by kernel_rfl) (by kernel_rfl) (by kernel_rfl) (fun _ _ _ h => h) (Or.inl ⟨by rfl, ?_⟩) (by assumption) ?_
          rotate_left
          · (intro w hSw; (try dsimp only at hSw); go_simp); try with_reducible rfl
          try simp only [Act.put, List.setIfInBounds_toArray, List.set_cons_zero, List.set_cons_succ]
          refine wpAnyH_take (i := 6) (oi := { dst := some 18, op := Op.move (Operand.tmp 17), type := 4, pos := "region.go:148", after := #[{ on := 5, ground := Ground.data }, { on := 3, ground := Ground.chain }, { on := 3, ground := Ground.guard }], guard := some (3, false) }) (v := ?_) rfl (by kernel_rfl) (by kernel_rfl) (by kernel_rfl) (fun _ _ _ h => h) (Or.inl ⟨by rfl, ?_⟩) (by assumption) ?_
          rotate_left
          · (intro w hSw; (try dsimp only at hSw); go_simp); try with_reducible rfl
          try simp only [Act.put, List.setIfInBounds_toArray, List.set_cons_zero, List.set_cons_succ]
          refine wpAnyH_take (i := 7) (oi := { dst := some 19, op := Op.fieldAddr 43 (Operand.tmp 4) 1, type := 0, pos := "region.go:148", after := #[{ on := 6, ground := Ground.guard }], guard := some (6, true) }) (v := undef) rfl (by kernel_rfl) (by kernel_rfl) (by kernel_rfl) (fun _ _ _ h => h) (Or.inr ⟨by rfl, by rfl⟩) (by assumption) ?_
          try simp only [Act.put, List.setIfInBounds_toArray, List.set_cons_zero, List.set_cons_succ]
          refine wpAnyH_take (i := 8) (oi := { dst := some 20, op := Op.load 3 (Operand.tmp 19), type := 3, pos := "region.go:148", after := #[{ on := 7, ground := Ground.data }, { on := 6, ground := Ground.guard }], guard := some (6, true) }) (v := undef) rfl (by kernel_rfl) (by kernel_rfl) (by kernel_rfl) (fun _ _ _ h => h) (Or.inr ⟨by rfl, by rfl⟩) (by assumption) ?_
          try simp only [Act.put, List.setIfInBounds_toArray, List.set_cons_zero, List.set_cons_succ]
          refine wpAnyH_take (i := 9) (oi := { dst := some 21, op := Op.move (Operand.tmp 0), type := 48, pos := "region.go:148", after := #[{ on := 6, ground := Ground.guard }], guard := some (6, true) }) (v := undef) rfl (by kernel_rfl) (by kernel_rfl) (by kernel_rfl) (fun _ _ _ h => h) (Or.inr ⟨by rfl, by rfl⟩) (by assumption) ?_
          try simp only [Act.put, List.setIfInBounds_toArray, List.set_cons_zero, List.set_cons_succ]
          refine wpAnyH_take (i := 10) (oi := { dst := some 22, op := Op.move (Operand.tmp 3), type := 3, pos := "region.go:148", after := #[{ on := 6, ground := Ground.guard }], guard := some (6, true) }) (v := undef) rfl (by kernel_rfl) (by kernel_rfl) (by kernel_rfl) (fun _ _ _ h => h) (Or.inr ⟨by rfl, by rfl⟩) (by assumption) ?_
          try simp only [Act.put, List.setIfInBounds_toArray, List.set_cons_zero, List.set_cons_succ]
          refine wpAnyH_take (i := 11) (oi := { dst := some 23, op := Op.binOp BinOp.sub 3 (Operand.tmp 22) (Operand.const (Value.int IntKind.i64 1)) 3, type := 3, pos := "region.go:148", after := #[{ on := 10, ground := Ground.data }, { on := 6, ground := Ground.guard }], guard := some (6, true) }) (v := undef) rfl (by kernel_rfl) (by kernel_rfl) (by kernel_rfl) (fun _ _ _ h => h) (Or.inr ⟨by rfl, by rfl⟩) (by assumption) ?_
          try simp only [Act.put, List.setIfInBounds_toArray, List.set_cons_zero, List.set_cons_succ]
          refine wpAnyH_take (i := 12) (oi := { dst := some 24, op := Op.indexAddr 48 (Operand.tmp 21) (Operand.tmp 23), type := 0, pos := "region.go:148", after := #[{ on := 9, ground := Ground.data }, { on := 11, ground := Ground.data }, { on := 6, ground := Ground.guard }], guard := some (6, true) }) (v := undef) rfl (by kernel_rfl) (by kernel_rfl) (by kernel_rfl) (fun _ _ _ h => h) (Or.inr ⟨by rfl, by rfl⟩) (by assumption) ?_
          try simp only [Act.put, List.setIfInBounds_toArray, List.set_cons_zero, List.set_cons_succ]
          refine wpAnyH_take (i := 13) (oi := { dst := some 25, op := Op.fieldAddr 43 (Operand.tmp 24) 3, type := 0, pos := "region.go:148", after := #[{ on := 12, ground := Ground.data }, { on := 6, ground := Ground.guard }], guard := some (6, true) }) (v := undef) rfl (by kernel_rfl) (by kernel_rfl) (by kernel_rfl) (fun _ _ _ h => h) (Or.inr ⟨by rfl, by rfl⟩) (by assumption) ?_
          try simp only [Act.put, List.setIfInBounds_toArray, List.set_cons_zero, List.set_cons_succ]
          refine wpAnyH_take (i := 14) (oi := { dst := some 26, op := Op.load 3 (Operand.tmp 25), type := 3, pos := "region.go:148", after := #[{ on := 13, ground := Ground.data }, { on := 6, ground := Ground.guard }], guard := some (6, true) }) (v := undef) rfl (by kernel_rfl) (by kernel_rfl) (by kernel_rfl) (fun _ _ _ h => h) (Or.inr ⟨by rfl, by rfl⟩) (by assumption) ?_
          try simp only [Act.put, List.setIfInBounds_toArray, List.set_cons_zero, List.set_cons_succ]
          refine wpAnyH_take (i := 15) (oi := { dst := some 27, op := Op.binOp BinOp.leq 3 (Operand.tmp 20) (Operand.tmp 26) 3, type := 4, pos := "region.go:148", after := #[{ on := 8, ground := Ground.data }, { on := 14, ground := Ground.data }, { on := 6, ground := Ground.guard }], guard := some (6, true) }) (v := undef) rfl (by kernel_rfl) (by kernel_rfl) (by kernel_rfl) (fun _ _ _ h => h) (Or.inr ⟨by rfl, by rfl⟩) (by assumption) ?_
          try simp only [Act.put, List.setIfInBounds_toArray, List.set_cons_zero, List.set_cons_succ]
          refine wpAnyH_take (i := 16) (oi := { dst := some 28, op := Op.pick (Operand.tmp 18) (Operand.tmp 27) (Operand.const (Value.bool false)), type := 4, pos := "region.go:148", after := #[{ on := 6, ground := Ground.data }, { on := 15, ground := Ground.data }, { on := 3, ground := Ground.guard }], guard := some (3, false) }) (v := ?_) rfl (by kernel_rfl) (by kernel_rfl) (by kernel_rfl) (fun _ _ _ h => h) (Or.inl ⟨by rfl, ?_⟩) (by assumption) ?_
          rotate_left
          · (intro w hSw; (try dsimp only at hSw); go_simp); try with_reducible rfl
          try simp only [Act.put, List.setIfInBounds_toArray, List.set_cons_zero, List.set_cons_succ]
          refine wpAnyH_take (i := 17) (oi := { dst := some 29, op := Op.pick (Operand.tmp 15) (Operand.const (Value.bool true)) (Operand.tmp 28), type := 4, pos := "region.go:148", after := #[{ on := 3, ground := Ground.data }, { on := 16, ground := Ground.data }], guard := none }) (v := ?_) rfl (by kernel_rfl) (by kernel_rfl) (by kernel_rfl) (fun _ _ _ h => h) (Or.inl ⟨by rfl, ?_⟩) (by assumption) ?_
          rotate_left
          · (intro w hSw; (try dsimp only at hSw); go_simp); try with_reducible rfl
          try simp only [Act.put, List.setIfInBounds_toArray, List.set_cons_zero, List.set_cons_succ]
          refine wpAnyH_done (by kernel_rfl) ?_ _
          go_wp2_with fail
          go_roundw
          case rel => exact ⟨k + 1, by omega, by go_num, hHeld.2.2.2.2.2, fun j h hj => by
            obtain rfl : j = k := by have := K0.out; omega
            rw [← HU.out]; exact ⟨OK.out, fun h0 => absurd h0 (by have := K0.out; omega)⟩⟩
          case measure => simp [intOf]; omega
        · obtain ⟨k, rfl⟩ : ∃ i, k = i + 1 := ⟨k - 1, by omega⟩
          obtain ⟨_, _, _, y3⟩ := hv1 k (by omega)
          have y3 := (wc _).trans y3
          clear hv1 wc k0
          have g0 : decide ((0 : Int) < (((k + 1 : Nat)) : Int)) = true := by simp
          have r1 : IntKind.i64.wrap (k : Int) = (k : Int) := IntWalk.i64_in _ (by omega)
          have r2 : (0 : Int) ≤ (k : Int) := by omega
          have r3 : (k : Int) < (l.length : Int) := by omega
          have ev : ∃ v, v = (l[k]'(by omega)).Y1 := ⟨_, rfl⟩
          obtain ⟨v, hv⟩ := ev
          rw [← hv] at y3
          have HV := Lib.hid hv; clear hv
          have E0 := Lib.hid (Ix.new (u := u) HB.out y3 hbw)
          by_cases c : u.Y0 ≤ v
          · have c1 : decide (u.Y0 ≤ v) = true := decide_eq_true c
            have C := Lib.hid c; clear c
            go_wp2_with fail
            refine wp_region_held_drew (S := fun w' => w'.cell? ⟨wr.heap.size, 0, none⟩ = some (.int .i64 u.X0) ∧ w'.cell? ⟨wr.heap.size, 1, none⟩ = some (.int .i64 u.Y0) ∧ w'.cell? ⟨wr.heap.size, 2, none⟩ = some (.int .i64 u.X1) ∧ w'.cell? ⟨wr.heap.size, 3, none⟩ = some (.int .i64 u.Y1) ∧ w'.cell? ⟨b1, (o1 + k * 4 + 3), none⟩ = some (.int .i64 v) ∧ b1 < w'.heap.size ∧ wr.heap.size < w'.heap.size ∧ Hid (Below w0.heap.size w0 w')) (by kernel_rfl) ?_ (fun hHeld => ?_)
            · exact Ix.drewN E0.out 1
            refine wpAnyH_take (i := 0) (oi := { dst := some 12, op := Op.load 43 (Operand.tmp 4), type := 43, pos := "region.go:148", after := #[], guard := none }) (v := ?_) rfl (by kernel_rfl) (by kernel_rfl) (by kernel_rfl) (fun _ _ _ h => h) (Or.inl ⟨by rfl, ?_⟩) (by assumption) ?_
            rotate_left
            · (intro w hSw; (try dsimp only at hSw); go_simp); try with_reducible rfl
            try simp only [Act.put, List.setIfInBounds_toArray, List.set_cons_zero, List.set_cons_succ]
            refine wpAnyH_ready (rs := [1]) (by kernel_rfl) (by simp) ?_
            refine AllReadyH.cons (o := { dst := some 13, op := Op.call { callee := Callee.value (Operand.func 32), args := #[Operand.tmp 12], argTypes := #[43] }, type := 4, pos := "region.go:148", after := #[{ on := 0, ground := Ground.data }], guard := none }) rfl (fun K hK => ?_) AllReadyH.nil
            go_simp
            go_at_call 32
            refine (tright_nd _ _ _ _ _).mono ?_
            rintro e w' ⟨rfl, hb⟩
            rw [oa]
            try go_wp2_with fail
            refine hK.out _ _ (Ix.go ‹_› hb) (fun hHeld2 => ?_)
            clear hK K hHeld hb
            have hHeld := hHeld2; clear hHeld2
            try simp only [Act.put, List.setIfInBounds_toArray, List.set_cons_zero, List.set_cons_succ]
            refine wpAnyH_take (i := 2) (oi := { dst := some 14, op := Op.unOp UnOp.not 4 (Operand.tmp 13), type := 4, pos := "region.go:148", after := #[{ on := 1, ground := Ground.data }], guard := none }) (v := ?_) rfl (by kernel_rfl) (by kernel_rfl) (by kernel_rfl) (fun _ _ _ h => h) (Or.inl ⟨by rfl, ?_⟩) (by assumption) ?_
            rotate_left
            · (intro w hSw; (try dsimp only at hSw); go_simp); try with_reducible rfl
            try simp only [Act.put, List.setIfInBounds_toArray, List.set_cons_zero, List.set_cons_succ]
            refine wpAnyH_take (i := 3) (oi := { dst := some 15, op := Op.move (Operand.tmp 14), type := 4, pos := "region.go:148", after := #[{ on := 2, ground := Ground.data }, { on := 1, ground := Ground.chain }], guard := none }) (v := ?_) rfl (by kernel_rfl) (by kernel_rfl) (by kernel_rfl) (fun _ _ _ h => h) (Or.inl ⟨by rfl, ?_⟩) (by assumption) ?_
            rotate_left
            · (intro w hSw; (try dsimp only at hSw); go_simp); try with_reducible rfl
            try simp only [Act.put, List.setIfInBounds_toArray, List.set_cons_zero, List.set_cons_succ]
            refine wpAnyH_take (i := 4) (oi := { dst := some 16, op := Op.move (Operand.tmp 3), type := 3, pos := "region.go:148", after := #[{ on := 3, ground := Ground.guard }], guard := some (3, false) }) (v := ?_) rfl (by kernel_rfl) (by kernel_rfl) (by kernel_rfl) (fun _ _ _ h => h) (Or.inl ⟨by rfl, ?_⟩) (by assumption) ?_
            rotate_left
            · (intro w hSw; (try dsimp only at hSw); go_simp); try with_reducible rfl
            try simp only [Act.put, List.setIfInBounds_toArray, List.set_cons_zero, List.set_cons_succ]
            refine wpAnyH_take (i := 5) (oi := { dst := some 17, op := Op.binOp BinOp.gtr 3 (Operand.tmp 16) (Operand.const (Value.int IntKind.i64 0)) 3, type := 4, pos := "region.go:148", after := #[{ on := 4, ground := Ground.data }, { on := 3, ground := Ground.guard }], guard := some (3, false) }) (v := ?_) rfl (by kernel_rfl) (by kernel_rfl) (by kernel_rfl) (fun _ _ _ h => h) (Or.inl ⟨by rfl, ?_⟩) (by assumption) ?_
            rotate_left
            · (intro w hSw; (try dsimp only at hSw); go_simp); try with_reducible rfl
            try simp only [Act.put, List.setIfInBounds_toArray, List.set_cons_zero, List.set_cons_succ]
            refine wpAnyH_take (i := 6) (oi := { dst := some 18, op := Op.move (Operand.tmp 17), type := 4, pos := "region.go:148", after := #[{ on := 5, ground := Ground.data }, { on := 3, ground := Ground.chain }, { on := 3, ground := Ground.guard }], guard := some (3, false) }) (v := ?_) rfl (by kernel_rfl) (by kernel_rfl) (by kernel_rfl) (fun _ _ _ h => h) (Or.inl ⟨by rfl, ?_⟩) (by assumption) ?_
            rotate_left
            · (intro w hSw; (try dsimp only at hSw); go_simp); try with_reducible rfl
            try simp only [Act.put, List.setIfInBounds_toArray, List.set_cons_zero, List.set_cons_succ]
            refine wpAnyH_take (i := 7) (oi := { dst := some 19, op := Op.fieldAddr 43 (Operand.tmp 4) 1, type := 0, pos := "region.go:148", after := #[{ on := 6, ground := Ground.guard }], guard := some (6, true) }) (v := ?_) rfl (by kernel_rfl) (by kernel_rfl) (by kernel_rfl) (fun _ _ _ h => h) (Or.inl ⟨by rfl, ?_⟩) (by assumption) ?_
            rotate_left
            · (intro w hSw; (try dsimp only at hSw); go_simp); try with_reducible rfl
            try simp only [Act.put, List.setIfInBounds_toArray, List.set_cons_zero, List.set_cons_succ]
            refine wpAnyH_take (i := 8) (oi := { dst := some 20, op := Op.load 3 (Operand.tmp 19), type := 3, pos := "region.go:148", after := #[{ on := 7, ground := Ground.data }, { on := 6, ground := Ground.guard }], guard := some (6, true) }) (v := ?_) rfl (by kernel_rfl) (by kernel_rfl) (by kernel_rfl) (fun _ _ _ h => h) (Or.inl ⟨by rfl, ?_⟩) (by assumption) ?_
            rotate_left
            · (intro w hSw; (try dsimp only at hSw); go_simp); try with_reducible rfl
            try simp only [Act.put, List.setIfInBounds_toArray, List.set_cons_zero, List.set_cons_succ]
            refine wpAnyH_take (i := 9) (oi := { dst := some 21, op := Op.move (Operand.tmp 0), type := 48, pos := "region.go:148", after := #[{ on := 6, ground := Ground.guard }], guard := some (6, true) }) (v := ?_) rfl (by kernel_rfl) (by kernel_rfl) (by kernel_rfl) (fun _ _ _ h => h) (Or.inl ⟨by rfl, ?_⟩) (by assumption) ?_
            rotate_left
            · (intro w hSw; (try dsimp only at hSw); go_simp); try with_reducible rfl
            try simp only [Act.put, List.setIfInBounds_toArray, List.set_cons_zero, List.set_cons_succ]
            refine wpAnyH_take (i := 10) (oi := { dst := some 22, op := Op.move (Operand.tmp 3), type := 3, pos := "region.go:148", after := #[{ on := 6, ground := Ground.guard }], guard := some (6, true) }) (v := ?_) rfl (by kernel_rfl) (by kernel_rfl) (by kernel_rfl) (fun _ _ _ h => h) (Or.inl ⟨by rfl, ?_⟩) (by assumption) ?_
            rotate_left
            · (intro w hSw; (try dsimp only at hSw); go_simp); try with_reducible rfl
            try simp only [Act.put, List.setIfInBounds_toArray, List.set_cons_zero, List.set_cons_succ]
            refine wpAnyH_take (i := 11) (oi := { dst := some 23, op := Op.binOp BinOp.sub 3 (Operand.tmp 22) (Operand.const (Value.int IntKind.i64 1)) 3, type := 3, pos := "region.go:148", after := #[{ on := 10, ground := Ground.data }, { on := 6, ground := Ground.guard }], guard := some (6, true) }) (v := ?_) rfl (by kernel_rfl) (by kernel_rfl) (by kernel_rfl) (fun _ _ _ h => h) (Or.inl ⟨by rfl, ?_⟩) (by assumption) ?_
            rotate_left
            · (intro w hSw; (try dsimp only at hSw); go_simp); try with_reducible rfl
            try simp only [Act.put, List.setIfInBounds_toArray, List.set_cons_zero, List.set_cons_succ]
            refine wpAnyH_take (i := 12) (oi := { dst := some 24, op := Op.indexAddr 48 (Operand.tmp 21) (Operand.tmp 23), type := 0, pos := "region.go:148", after := #[{ on := 9, ground := Ground.data }, { on := 11, ground := Ground.data }, { on := 6, ground := Ground.guard }], guard := some (6, true) }) (v := ?_) rfl (by kernel_rfl) (by kernel_rfl) (by kernel_rfl) (fun _ _ _ h => h) (Or.inl ⟨by rfl, ?_⟩) (by assumption) ?_
            rotate_left
            · (intro w hSw; (try dsimp only at hSw); go_simp); try with_reducible rfl
            try simp only [Act.put, List.setIfInBounds_toArray, List.set_cons_zero, List.set_cons_succ]
            refine wpAnyH_take (i := 13) (oi := { dst := some 25, op := Op.fieldAddr 43 (Operand.tmp 24) 3, type := 0, pos := "region.go:148", after := #[{ on := 12, ground := Ground.data }, { on := 6, ground := Ground.guard }], guard := some (6, true) }) (v := ?_) rfl (by kernel_rfl) (by kernel_rfl) (by kernel_rfl) (fun _ _ _ h => h) (Or.inl ⟨by rfl, ?_⟩) (by assumption) ?_
            rotate_left
            · (intro w hSw; (try dsimp only at hSw); go_simp); try with_reducible rfl
            try simp only [Act.put, List.setIfInBounds_toArray, List.set_cons_zero, List.set_cons_succ]
            refine wpAnyH_take (i := 14) (oi := { dst := some 26, op := Op.load 3 (Operand.tmp 25), type := 3, pos := "region.go:148", after := #[{ on := 13, ground := Ground.data }, { on := 6, ground := Ground.guard }], guard := some (6, true) }) (v := ?_) rfl (by kernel_rfl) (by kernel_rfl) (by kernel_rfl) (fun _ _ _ h => h) (Or.inl ⟨by rfl, ?_⟩) (by assumption) ?_
            rotate_left
            · (intro w hSw; (try dsimp only at hSw); go_simp); try with_reducible rfl
            try simp only [Act.put, List.setIfInBounds_toArray, List.set_cons_zero, List.set_cons_succ]
            refine wpAnyH_take (i := 15) (oi := { dst := some 27, op := Op.binOp BinOp.leq 3 (Operand.tmp 20) (Operand.tmp 26) 3, type := 4, pos := "region.go:148", after := #[{ on := 8, ground := Ground.data }, { on := 14, ground := Ground.data }, { on := 6, ground := Ground.guard }], guard := some (6, true) }) (v := ?_) rfl (by kernel_rfl) (by kernel_rfl) (by kernel_rfl) (fun _ _ _ h => h) (Or.inl ⟨by rfl, ?_⟩) (by assumption) ?_
            rotate_left
            · (intro w hSw; (try dsimp only at hSw); go_simp); try with_reducible rfl
            try simp only [Act.put, List.setIfInBounds_toArray, List.set_cons_zero, List.set_cons_succ]
            refine wpAnyH_take (i := 16) (oi := { dst := some 28, op := Op.pick (Operand.tmp 18) (Operand.tmp 27) (Operand.const (Value.bool false)), type := 4, pos := "region.go:148", after := #[{ on := 6, ground := Ground.data }, { on := 15, ground := Ground.data }, { on := 3, ground := Ground.guard }], guard := some (3, false) }) (v := ?_) rfl (by kernel_rfl) (by kernel_rfl) (by kernel_rfl) (fun _ _ _ h => h) (Or.inl ⟨by rfl, ?_⟩) (by assumption) ?_
            rotate_left
            · (intro w hSw; (try dsimp only at hSw); go_simp); try with_reducible rfl
            try simp only [Act.put, List.setIfInBounds_toArray, List.set_cons_zero, List.set_cons_succ]
            refine wpAnyH_take (i := 17) (oi := { dst := some 29, op := Op.pick (Operand.tmp 15) (Operand.const (Value.bool true)) (Operand.tmp 28), type := 4, pos := "region.go:148", after := #[{ on := 3, ground := Ground.data }, { on := 16, ground := Ground.data }], guard := none }) (v := ?_) rfl (by kernel_rfl) (by kernel_rfl) (by kernel_rfl) (fun _ _ _ h => h) (Or.inl ⟨by rfl, ?_⟩) (by assumption) ?_
            rotate_left
            · (intro w hSw; (try dsimp only at hSw); go_simp); try with_reducible rfl
            try simp only [Act.put, List.setIfInBounds_toArray, List.set_cons_zero, List.set_cons_succ]
            refine wpAnyH_done (by kernel_rfl) ?_ _
            go_wp2_with fail
            go_ret
            exact ⟨false, ⟨fun h => (by cases h), fun h => absurd ((h (k + 1) hlt).2 (by omega)) (by rw [← HU.out]; simp only [Nat.add_sub_cancel]; rw [← HV.out]; have := C.out; omega)⟩, rfl, hHeld.2.2.2.2.2.2.2.out⟩
          · have c1 : decide (u.Y0 ≤ v) = false := decide_eq_false c
            have C := Lib.hid c; clear c
            go_wp2_with fail
            refine wp_region_held_drew (S := fun w' => w'.cell? ⟨wr.heap.size, 0, none⟩ = some (.int .i64 u.X0) ∧ w'.cell? ⟨wr.heap.size, 1, none⟩ = some (.int .i64 u.Y0) ∧ w'.cell? ⟨wr.heap.size, 2, none⟩ = some (.int .i64 u.X1) ∧ w'.cell? ⟨wr.heap.size, 3, none⟩ = some (.int .i64 u.Y1) ∧ w'.cell? ⟨b1, (o1 + k * 4 + 3), none⟩ = some (.int .i64 v) ∧ b1 < w'.heap.size ∧ wr.heap.size < w'.heap.size ∧ Hid (Below w0.heap.size w0 w')) (by kernel_rfl) ?_ (fun hHeld => ?_)
            · exact Ix.drewN E0.out 1
            refine wpAnyH_take (i := 0) (oi := { dst := some 12, op := Op.load 43 (Operand.tmp 4), type := 43, pos := "region.go:148", after := #[], guard := none }) (v := ?_) rfl (by kernel_rfl) (by kernel_rfl) (by kernel_rfl) (fun _ _ _ h => h) (Or.inl ⟨by rfl, ?_⟩) (by assumption) ?_
            rotate_left
            · (intro w hSw; (try dsimp only at hSw); go_simp); try with_reducible rfl
            try simp only [Act.put, List.setIfInBounds_toArray, List.set_cons_zero, List.set_cons_succ]
            refine wpAnyH_ready (rs := [1]) (by kernel_rfl) (by simp) ?_
            refine AllReadyH.cons (o := { dst := some 13, op := Op.call { callee := Callee.value (Operand.func 32), args := #[Operand.tmp 12], argTypes := #[43] }, type := 4, pos := "region.go:148", after := #[{ on := 0, ground := Ground.data }], guard := none }) rfl (fun K hK => ?_) AllReadyH.nil
            go_simp
            go_at_call 32
            refine (tright_nd _ _ _ _ _).mono ?_
            rintro e w' ⟨rfl, hb⟩
            rw [oa]
            try go_wp2_with fail
            refine hK.out _ _ (Ix.go ‹_› hb) (fun hHeld2 => ?_)
            clear hK K hHeld hb
            have hHeld := hHeld2; clear hHeld2
            try simp only [Act.put, List.setIfInBounds_toArray, List.set_cons_zero, List.set_cons_succ]
            refine wpAnyH_take (i := 2) (oi := { dst := some 14, op := Op.unOp UnOp.not 4 (Operand.tmp 13), type := 4, pos := "region.go:148", after := #[{ on := 1, ground := Ground.data }], guard := none }) (v := ?_) rfl (by kernel_rfl) (by kernel_rfl) (by kernel_rfl) (fun _ _ _ h => h) (Or.inl ⟨by rfl, ?_⟩) (by assumption) ?_
            rotate_left
            · (intro w hSw; (try dsimp only at hSw); go_simp); try with_reducible rfl
            try simp only [Act.put, List.setIfInBounds_toArray, List.set_cons_zero, List.set_cons_succ]
            refine wpAnyH_take (i := 3) (oi := { dst := some 15, op := Op.move (Operand.tmp 14), type := 4, pos := "region.go:148", after := #[{ on := 2, ground := Ground.data }, { on := 1, ground := Ground.chain }], guard := none }) (v := ?_) rfl (by kernel_rfl) (by kernel_rfl) (by kernel_rfl) (fun _ _ _ h => h) (Or.inl ⟨by rfl, ?_⟩) (by assumption) ?_
            rotate_left
            · (intro w hSw; (try dsimp only at hSw); go_simp); try with_reducible rfl
            try simp only [Act.put, List.setIfInBounds_toArray, List.set_cons_zero, List.set_cons_succ]
            refine wpAnyH_take (i := 4) (oi := { dst := some 16, op := Op.move (Operand.tmp 3), type := 3, pos := "region.go:148", after := #[{ on := 3, ground := Ground.guard }], guard := some (3, false) }) (v := ?_) rfl (by kernel_rfl) (by kernel_rfl) (by kernel_rfl) (fun _ _ _ h => h) (Or.inl ⟨by rfl, ?_⟩) (by assumption) ?_
            rotate_left
            · (intro w hSw; (try dsimp only at hSw); go_simp); try with_reducible rfl
            try simp only [Act.put, List.setIfInBounds_toArray, List.set_cons_zero, List.set_cons_succ]
            refine wpAnyH_take (i := 5) (oi := { dst := some 17, op := Op.binOp BinOp.gtr 3 (Operand.tmp 16) (Operand.const (Value.int IntKind.i64 0)) 3, type := 4, pos := "region.go:148", after := #[{ on := 4, ground := Ground.data }, { on := 3, ground := Ground.guard }], guard := some (3, false) }) (v := ?_) rfl (by kernel_rfl) (by kernel_rfl) (by kernel_rfl) (fun _ _ _ h => h) (Or.inl ⟨by rfl, ?_⟩) (by assumption) ?_
            rotate_left
            · (intro w hSw; (try dsimp only at hSw); go_simp); try with_reducible rfl
            try simp only [Act.put, List.setIfInBounds_toArray, List.set_cons_zero, List.set_cons_succ]
            refine wpAnyH_take (i := 6) (oi := { dst := some 18, op := Op.move (Operand.tmp 17), type := 4, pos := "region.go:148", after := #[{ on := 5, ground := Ground.data }, { on := 3, ground := Ground.chain }, { on := 3, ground := Ground.guard }], guard := some (3, false) }) (v := ?_) rfl (by kernel_rfl) (by kernel_rfl) (by kernel_rfl) (fun _ _ _ h => h) (Or.inl ⟨by rfl, ?_⟩) (by assumption) ?_
            rotate_left
            · (intro w hSw; (try dsimp only at hSw); go_simp); try with_reducible rfl
            try simp only [Act.put, List.setIfInBounds_toArray, List.set_cons_zero, List.set_cons_succ]
            refine wpAnyH_take (i := 7) (oi := { dst := some 19, op := Op.fieldAddr 43 (Operand.tmp 4) 1, type := 0, pos := "region.go:148", after := #[{ on := 6, ground := Ground.guard }], guard := some (6, true) }) (v := ?_) rfl (by kernel_rfl) (by kernel_rfl) (by kernel_rfl) (fun _ _ _ h => h) (Or.inl ⟨by rfl, ?_⟩) (by assumption) ?_
            rotate_left
            · (intro w hSw; (try dsimp only at hSw); go_simp); try with_reducible rfl
            try simp only [Act.put, List.setIfInBounds_toArray, List.set_cons_zero, List.set_cons_succ]
            refine wpAnyH_take (i := 8) (oi := { dst := some 20, op := Op.load 3 (Operand.tmp 19), type := 3, pos := "region.go:148", after := #[{ on := 7, ground := Ground.data }, { on := 6, ground := Ground.guard }], guard := some (6, true) }) (v := ?_) rfl (by kernel_rfl) (by kernel_rfl) (by kernel_rfl) (fun _ _ _ h => h) (Or.inl ⟨by rfl, ?_⟩) (by assumption) ?_
            rotate_left
            · (intro w hSw; (try dsimp only at hSw); go_simp); try with_reducible rfl
            try simp only [Act.put, List.setIfInBounds_toArray, List.set_cons_zero, List.set_cons_succ]
            refine wpAnyH_take (i := 9) (oi := { dst := some 21, op := Op.move (Operand.tmp 0), type := 48, pos := "region.go:148", after := #[{ on := 6, ground := Ground.guard }], guard := some (6, true) }) (v := ?_) rfl (by kernel_rfl) (by kernel_rfl) (by kernel_rfl) (fun _ _ _ h => h) (Or.inl ⟨by rfl, ?_⟩) (by assumption) ?_
            rotate_left
            · (intro w hSw; (try dsimp only at hSw); go_simp); try with_reducible rfl
            try simp only [Act.put, List.setIfInBounds_toArray, List.set_cons_zero, List.set_cons_succ]
            refine wpAnyH_take (i := 10) (oi := { dst := some 22, op := Op.move (Operand.tmp 3), type := 3, pos := "region.go:148", after := #[{ on := 6, ground := Ground.guard }], guard := some (6, true) }) (v := ?_) rfl (by kernel_rfl) (by kernel_rfl) (by kernel_rfl) (fun _ _ _ h => h) (Or.inl ⟨by rfl, ?_⟩) (by assumption) ?_
            rotate_left
            · (intro w hSw; (try dsimp only at hSw); go_simp); try with_reducible rfl
            try simp only [Act.put, List.setIfInBounds_toArray, List.set_cons_zero, List.set_cons_succ]
            refine wpAnyH_take (i := 11) (oi := { dst := some 23, op := Op.binOp BinOp.sub 3 (Operand.tmp 22) (Operand.const (Value.int IntKind.i64 1)) 3, type := 3, pos := "region.go:148", after := #[{ on := 10, ground := Ground.data }, { on := 6, ground := Ground.guard }], guard := some (6, true) }) (v := ?_) rfl (by kernel_rfl) (by kernel_rfl) (by kernel_rfl) (fun _ _ _ h => h) (Or.inl ⟨by rfl, ?_⟩) (by assumption) ?_
            rotate_left
            · (intro w hSw; (try dsimp only at hSw); go_simp); try with_reducible rfl
            try simp only [Act.put, List.setIfInBounds_toArray, List.set_cons_zero, List.set_cons_succ]
            refine wpAnyH_take (i := 12) (oi := { dst := some 24, op := Op.indexAddr 48 (Operand.tmp 21) (Operand.tmp 23), type := 0, pos := "region.go:148", after := #[{ on := 9, ground := Ground.data }, { on := 11, ground := Ground.data }, { on := 6, ground := Ground.guard }], guard := some (6, true) }) (v := ?_) rfl (by kernel_rfl) (by kernel_rfl) (by kernel_rfl) (fun _ _ _ h => h) (Or.inl ⟨by rfl, ?_⟩) (by assumption) ?_
            rotate_left
            · (intro w hSw; (try dsimp only at hSw); go_simp); try with_reducible rfl
            try simp only [Act.put, List.setIfInBounds_toArray, List.set_cons_zero, List.set_cons_succ]
            refine wpAnyH_take (i := 13) (oi := { dst := some 25, op := Op.fieldAddr 43 (Operand.tmp 24) 3, type := 0, pos := "region.go:148", after := #[{ on := 12, ground := Ground.data }, { on := 6, ground := Ground.guard }], guard := some (6, true) }) (v := ?_) rfl (by kernel_rfl) (by kernel_rfl) (by kernel_rfl) (fun _ _ _ h => h) (Or.inl ⟨by rfl, ?_⟩) (by assumption) ?_
            rotate_left
            · (intro w hSw; (try dsimp only at hSw); go_simp); try with_reducible rfl
            try simp only [Act.put, List.setIfInBounds_toArray, List.set_cons_zero, List.set_cons_succ]
            refine wpAnyH_take (i := 14) (oi := { dst := some 26, op := Op.load 3 (Operand.tmp 25), type := 3, pos := "region.go:148", after := #[{ on := 13, ground := Ground.data }, { on := 6, ground := Ground.guard }], guard := some (6, true) }) (v := ?_) rfl (by kernel_rfl) (by kernel_rfl) (by kernel_rfl) (fun _ _ _ h => h) (Or.inl ⟨by rfl, ?_⟩) (by assumption) ?_
            rotate_left
            · (intro w hSw; (try dsimp only at hSw); go_simp); try with_reducible rfl
            try simp only [Act.put, List.setIfInBounds_toArray, List.set_cons_zero, List.set_cons_succ]
            refine wpAnyH_take (i := 15) (oi := { dst := some 27, op := Op.binOp BinOp.leq 3 (Operand.tmp 20) (Operand.tmp 26) 3, type := 4, pos := "region.go:148", after := #[{ on := 8, ground := Ground.data }, { on := 14, ground := Ground.data }, { on := 6, ground := Ground.guard }], guard := some (6, true) }) (v := ?_) rfl (by kernel_rfl) (by kernel_rfl) (by kernel_rfl) (fun _ _ _ h => h) (Or.inl ⟨by rfl, ?_⟩) (by assumption) ?_
            rotate_left
            · (intro w hSw; (try dsimp only at hSw); go_simp); try with_reducible rfl
            try simp only [Act.put, List.setIfInBounds_toArray, List.set_cons_zero, List.set_cons_succ]
            refine wpAnyH_take (i := 16) (oi := { dst := some 28, op := Op.pick (Operand.tmp 18) (Operand.tmp 27) (Operand.const (Value.bool false)), type := 4, pos := "region.go:148", after := #[{ on := 6, ground := Ground.data }, { on := 15, ground := Ground.data }, { on := 3, ground := Ground.guard }], guard := some (3, false) }) (v := ?_) rfl (by kernel_rfl) (by kernel_rfl) (by kernel_rfl) (fun _ _ _ h => h) (Or.inl ⟨by rfl, ?_⟩) (by assumption) ?_
            rotate_left
            · (intro w hSw; (try dsimp only at hSw); go_simp); try with_reducible rfl
            try simp only [Act.put, List.setIfInBounds_toArray, List.set_cons_zero, List.set_cons_succ]
            refine wpAnyH_take (i := 17) (oi := { dst := some 29, op := Op.pick (Operand.tmp 15) (Operand.const (Value.bool true)) (Operand.tmp 28), type := 4, pos := "region.go:148", after := #[{ on := 3, ground := Ground.data }, { on := 16, ground := Ground.data }], guard := none }) (v := ?_) rfl (by kernel_rfl) (by kernel_rfl) (by kernel_rfl) (fun _ _ _ h => h) (Or.inl ⟨by rfl, ?_⟩) (by assumption) ?_
            rotate_left
            · (intro w hSw; (try dsimp only at hSw); go_simp); try with_reducible rfl
            try simp only [Act.put, List.setIfInBounds_toArray, List.set_cons_zero, List.set_cons_succ]
            refine wpAnyH_done (by kernel_rfl) ?_ _
            go_wp2_with fail
            go_roundw
            case rel => exact ⟨k + 1 + 1, by omega, by go_num, hHeld.2.2.2.2.2.2.2, fun j h hj => by
              by_cases e : j < k + 1
              · exact HT.out j h e
              · obtain rfl : j = k + 1 := by omega
                rw [← HU.out]
                exact ⟨OK.out, fun _ => by simp only [Nat.add_sub_cancel]; rw [← HV.out]; have := C.out; omega⟩⟩
            case measure => simp [intOf]; omega
      · have oa : rokB ⟨u.X0, u.Y0, u.X1, u.Y1⟩ = false := (rokB_no u).2 ok
        have OK := Lib.hid ok; clear ok hv1 wc
        have E0 := Lib.hid (Jx.new (u := u) HB.out)
        go_wp2_with fail
        refine wp_region_held_drew (S := fun w' => w'.cell? ⟨wr.heap.size, 0, none⟩ = some (.int .i64 u.X0) ∧ w'.cell? ⟨wr.heap.size, 1, none⟩ = some (.int .i64 u.Y0) ∧ w'.cell? ⟨wr.heap.size, 2, none⟩ = some (.int .i64 u.X1) ∧ w'.cell? ⟨wr.heap.size, 3, none⟩ = some (.int .i64 u.Y1) ∧ wr.heap.size < w'.heap.size ∧ Hid (Below w0.heap.size w0 w')) (by kernel_rfl) ?_ (fun hHeld => ?_)
        · exact Jx.drewN E0.out 1
        refine wpAnyH_take (i := 0) (oi := { dst := some 12, op := Op.load 43 (Operand.tmp 4), type := 43, pos := "region.go:148", after := #[], guard := none }) (v := ?_) rfl (by kernel_rfl) (by kernel_rfl) (by kernel_rfl) (fun _ _ _ h => h) (Or.inl ⟨by rfl, ?_⟩) (by assumption) ?_
        rotate_left
        · (intro w hSw; (try dsimp only at hSw); go_simp); try with_reducible rfl
        try simp only [Act.put, List.setIfInBounds_toArray, List.set_cons_zero, List.set_cons_succ]
        refine wpAnyH_ready (rs := [1]) (by kernel_rfl) (by simp) ?_
        refine AllReadyH.cons (o := { dst := some 13, op := Op.call { callee := Callee.value (Operand.func 32), args := #[Operand.tmp 12], argTypes := #[43] }, type := 4, pos := "region.go:148", after := #[{ on := 0, ground := Ground.data }], guard := none }) rfl (fun K hK => ?_) AllReadyH.nil
        go_simp
        go_at_call 32
        refine (tright_nd _ _ _ _ _).mono ?_
        rintro e w' ⟨rfl, hb⟩
        rw [oa]
        try go_wp2_with fail
        refine hK.out _ _ (Jx.go ‹_› hb) (fun hHeld2 => ?_)
        clear hK K hHeld hb
        have hHeld := hHeld2; clear hHeld2
        try simp only [Act.put, List.setIfInBounds_toArray, List.set_cons_zero, List.set_cons_succ]
        refine wpAnyH_take (i := 2) (oi := { dst := some 14, op := Op.unOp UnOp.not 4 (Operand.tmp 13), type := 4, pos := "region.go:148", after := #[{ on := 1, ground := Ground.data }], guard := none }) (v := ?_) rfl (by kernel_rfl) (by kernel_rfl) (by kernel_rfl) (fun _ _ _ h => h) (Or.inl ⟨by rfl, ?_⟩) (by assumption) ?_
        rotate_left
        · (intro w hSw; (try dsimp only at hSw); go_simp); try with_reducible rfl
        try simp only [Act.put, List.setIfInBounds_toArray, List.set_cons_zero, List.set_cons_succ]
        refine wpAnyH_take (i := 3) (oi := { dst := some 15, op := Op.move (Operand.tmp 14), type := 4, pos := "region.go:148", after := #[{ on := 2, ground := Ground.data }, { on := 1, ground := Ground.chain }], guard := none }) (v := ?_) rfl (by kernel_rfl) (by kernel_rfl) (by kernel_rfl) (fun _ _ _ h => h) (Or.inl ⟨by rfl, ?_⟩) (by assumption) ?_
        rotate_left
        · (intro w hSw; (try dsimp only at hSw); go_simp); try with_reducible rfl
        try simp only [Act.put, List.setIfInBounds_toArray, List.set_cons_zero, List.set_cons_succ]
        refine wpAnyH_take (i := 4) (oi := { dst := some 16, op := Op.move (Operand.tmp 3), type := 3, pos := "region.go:148", after := #[{ on := 3, ground := Ground.guard }], guard := some (3, false) }) (v := undef) rfl (by kernel_rfl) (by kernel_rfl) (by kernel_rfl) (fun _ _ _ h => h) (Or.inr ⟨by rfl, by rfl⟩) (by assumption) ?_
        try simp only [Act.put, List.setIfInBounds_toArray, List.set_cons_zero, List.set_cons_succ]
        refine wpAnyH_take (i := 5) (oi := { dst := some 17, op := Op.binOp BinOp.gtr 3 (Operand.tmp 16) (Operand.const (Value.int IntKind.i64 0)) 3, type := 4, pos := "region.go:148", after := #[{ on := 4, ground := Ground.data }, { on := 3, ground := Ground.guard }], guard := some (3, false) }) (v := undef) rfl (by kernel_rfl) (by kernel_rfl) (by kernel_rfl) (fun _ _ _ h => h) (Or.inr ⟨by rfl, by rfl⟩) (by assumption) ?_
        try simp only [Act.put, List.setIfInBounds_toArray, List.set_cons_zero, List.set_cons_succ]
        refine wpAnyH_take (i := 6) (oi := { dst := some 18, op := Op.move (Operand.tmp 17), type := 4, pos := "region.go:148", after := #[{ on := 5, ground := Ground.data }, { on := 3, ground := Ground.chain }, { on := 3, ground := Ground.guard }], guard := some (3, false) }) (v := undef) rfl (by kernel_rfl) (by kernel_rfl) (by kernel_rfl) (fun _ _ _ h => h) (Or.inr ⟨by rfl, by rfl⟩) (by assumption) ?_
        try simp only [Act.put, List.setIfInBounds_toArray, List.set_cons_zero, List.set_cons_succ]
        refine wpAnyH_take (i := 7) (oi := { dst := some 19, op := Op.fieldAddr 43 (Operand.tmp 4) 1, type := 0, pos := "region.go:148", after := #[{ on := 6, ground := Ground.guard }], guard := some (6, true) }) (v := undef) rfl (by kernel_rfl) (by kernel_rfl) (by kernel_rfl) (fun _ _ _ h => h) (Or.inr ⟨by rfl, by rfl⟩) (by assumption) ?_
        try simp only [Act.put, List.setIfInBounds_toArray, List.set_cons_zero, List.set_cons_succ]
        refine wpAnyH_take (i := 8) (oi := { dst := some 20, op := Op.load 3 (Operand.tmp 19), type := 3, pos := "region.go:148", after := #[{ on := 7, ground := Ground.data }, { on := 6, ground := Ground.guard }], guard := some (6, true) }) (v := undef) rfl (by kernel_rfl) (by kernel_rfl) (by kernel_rfl) (fun _ _ _ h => h) (Or.inr ⟨by rfl, by rfl⟩) (by assumption) ?_
        try simp only [Act.put, List.setIfInBounds_toArray, List.set_cons_zero, List.set_cons_succ]
        refine wpAnyH_take (i := 9) (oi := { dst := some 21, op := Op.move (Operand.tmp 0), type := 48, pos := "region.go:148", after := #[{ on := 6, ground := Ground.guard }], guard := some (6, true) }) (v := undef) rfl (by kernel_rfl) (by kernel_rfl) (by kernel_rfl) (fun _ _ _ h => h) (Or.inr ⟨by rfl, by rfl⟩) (by assumption) ?_
        try simp only [Act.put, List.setIfInBounds_toArray, List.set_cons_zero, List.set_cons_succ]
        refine wpAnyH_take (i := 10) (oi := { dst := some 22, op := Op.move (Operand.tmp 3), type := 3, pos := "region.go:148", after := #[{ on := 6, ground := Ground.guard }], guard := some (6, true) }) (v := undef) rfl (by kernel_rfl) (by kernel_rfl) (by kernel_rfl) (fun _ _ _ h => h) (Or.inr ⟨by rfl, by rfl⟩) (by assumption) ?_
        try simp only [Act.put, List.setIfInBounds_toArray, List.set_cons_zero, List.set_cons_succ]
        refine wpAnyH_take (i := 11) (oi := { dst := some 23, op := Op.binOp BinOp.sub 3 (Operand.tmp 22) (Operand.const (Value.int IntKind.i64 1)) 3, type := 3, pos := "region.go:148", after := #[{ on := 10, ground := Ground.data }, { on := 6, ground := Ground.guard }], guard := some (6, true) }) (v := undef) rfl (by kernel_rfl) (by kernel_rfl) (by kernel_rfl) (fun _ _ _ h => h) (Or.inr ⟨by rfl, by rfl⟩) (by assumption) ?_
        try simp only [Act.put, List.setIfInBounds_toArray, List.set_cons_zero, List.set_cons_succ]
        refine wpAnyH_take (i := 12) (oi := { dst := some 24, op := Op.indexAddr 48 (Operand.tmp 21) (Operand.tmp 23), type := 0, pos := "region.go:148", after := #[{ on := 9, ground := Ground.data }, { on := 11, ground := Ground.data }, { on := 6, ground := Ground.guard }], guard := some (6, true) }) (v := undef) rfl (by kernel_rfl) (by kernel_rfl) (by kernel_rfl) (fun _ _ _ h => h) (Or.inr ⟨by rfl, by rfl⟩) (by assumption) ?_
        try simp only [Act.put, List.setIfInBounds_toArray, List.set_cons_zero, List.set_cons_succ]
        refine wpAnyH_take (i := 13) (oi := { dst := some 25, op := Op.fieldAddr 43 (Operand.tmp 24) 3, type := 0, pos := "region.go:148", after := #[{ on := 12, ground := Ground.data }, { on := 6, ground := Ground.guard }], guard := some (6, true) }) (v := undef) rfl (by kernel_rfl) (by kernel_rfl) (by kernel_rfl) (fun _ _ _ h => h) (Or.inr ⟨by rfl, by rfl⟩) (by assumption) ?_
        try simp only [Act.put, List.setIfInBounds_toArray, List.set_cons_zero, List.set_cons_succ]
        refine wpAnyH_take (i := 14) (oi := { dst := some 26, op := Op.load 3 (Operand.tmp 25), type := 3, pos := "region.go:148", after := #[{ on := 13, ground := Ground.data }, { on := 6, ground := Ground.guard }], guard := some (6, true) }) (v := undef) rfl (by kernel_rfl) (by kernel_rfl) (by kernel_rfl) (fun _ _ _ h => h) (Or.inr ⟨by rfl, by rfl⟩) (by assumption) ?_
        try simp only [Act.put, List.setIfInBounds_toArray, List.set_cons_zero, List.set_cons_succ]
        refine wpAnyH_take (i := 15) (oi := { dst := some 27, op := Op.binOp BinOp.leq 3 (Operand.tmp 20) (Operand.tmp 26) 3, type := 4, pos := "region.go:148", after := #[{ on := 8, ground := Ground.data }, { on := 14, ground := Ground.data }, { on := 6, ground := Ground.guard }], guard := some (6, true) }) (v := undef) rfl (by kernel_rfl) (by kernel_rfl) (by kernel_rfl) (fun _ _ _ h => h) (Or.inr ⟨by rfl, by rfl⟩) (by assumption) ?_
        try simp only [Act.put, List.setIfInBounds_toArray, List.set_cons_zero, List.set_cons_succ]
        refine wpAnyH_take (i := 16) (oi := { dst := some 28, op := Op.pick (Operand.tmp 18) (Operand.tmp 27) (Operand.const (Value.bool false)), type := 4, pos := "region.go:148", after := #[{ on := 6, ground := Ground.data }, { on := 15, ground := Ground.data }, { on := 3, ground := Ground.guard }], guard := some (3, false) }) (v := undef) rfl (by kernel_rfl) (by kernel_rfl) (by kernel_rfl) (fun _ _ _ h => h) (Or.inr ⟨by rfl, by rfl⟩) (by assumption) ?_
        try simp only [Act.put, List.setIfInBounds_toArray, List.set_cons_zero, List.set_cons_succ]
        refine wpAnyH_take (i := 17) (oi := { dst := some 29, op := Op.pick (Operand.tmp 15) (Operand.const (Value.bool true)) (Operand.tmp 28), type := 4, pos := "region.go:148", after := #[{ on := 3, ground := Ground.data }, { on := 16, ground := Ground.data }], guard := none }) (v := ?_) rfl (by kernel_rfl) (by kernel_rfl) (by kernel_rfl) (fun _ _ _ h => h) (Or.inl ⟨by rfl, ?_⟩) (by assumption) ?_
        rotate_left
        · (intro w hSw; (try dsimp only at hSw); go_simp); try with_reducible rfl
        try simp only [Act.put, List.setIfInBounds_toArray, List.set_cons_zero, List.set_cons_succ]
        refine wpAnyH_done (by kernel_rfl) ?_ _
        go_wp2_with fail
        go_ret
        exact ⟨false, ⟨fun h => (by cases h), fun h => absurd (h k hlt).1 (by rw [← HU.out]; exact OK.out)⟩, rfl, hHeld.2.2.2.2.2.out⟩
    · obtain rfl : k = l.length := by omega
      go_wp2
      go_ret
      exact ⟨true, ⟨fun _ j h => HT.out j h h, fun _ => rfl⟩, rfl, HB.out⟩
end Go.Proofs.Ytdnoadngfkiabaa
