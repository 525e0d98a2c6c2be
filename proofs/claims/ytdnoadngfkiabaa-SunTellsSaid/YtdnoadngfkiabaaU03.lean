/-
  What contracts over rectangles and lists of them say, for seats without layer 5's texts (as Ec, Eh, Ei, Eq hold it); lists of ints.
  Contracts of the reference of layer 6 (1): RightRect, ints, Same.
-/
import Derived.Test.YtdnoadngfkiabaaProg
import Derived.Test.YtdnoadngfkiabaaU00
import Derived.WalkKit
import Derived.Lib.Hide
import Derived.WalkLawsBesides
import Derived.WalkSpells
import Derived.Outline
import Derived.BigQuiet
import Derived.Deep.QuietTactic
import Derived.OwnWalk
import Derived.Deep.OwnRows
import Derived.Laws.OwnMore
import Derived.IntWalk
set_option linter.unusedVariables false
set_option maxRecDepth 100000
namespace Go.Proofs.Ytdnoadngfkiabaa
open Go.RowKit

def In64 (n : Int) : Prop := -9223372036854775808 ≤ n ∧ n ≤ 9223372036854775807
def InR (r : Rc) : Prop := In64 r.X0 ∧ In64 r.Y0 ∧ In64 r.X1 ∧ In64 r.Y1
theorem ret_bl {a b : Bool} (h : a = b) : Ending.returned (.bool a) = .returned (.bool b) := by rw [h]
/-- a bool, a number, a rectangle with a bool: in new memory. -/
def BlIs (b : Bool) (w : World) (e : Ending) (w' : World) : Prop := e = .returned (.bool b) ∧ Below w.heap.size w w'
def InIs (n : Int) (w : World) (e : Ending) (w' : World) : Prop := e = .returned (.int .i64 n) ∧ Below w.heap.size w w'
def RbIs (x : Rc × Bool) (w : World) (e : Ending) (w' : World) : Prop := e = .returned (.tuple #[.agg #[.int .i64 x.1.X0, .int .i64 x.1.Y0, .int .i64 x.1.X1, .int .i64 x.1.Y1], .bool x.2]) ∧ Below w.heap.size w w'
theorem RbIs.of {x : Rc × Bool} {w w' : World} {a b c d : Int} {f : Bool} (ha : a = x.1.X0) (hb : b = x.1.Y0) (hc : c = x.1.X1) (hd : d = x.1.Y1) (hf : f = x.2) (h : Below w.heap.size w w') :
    RbIs x w (.returned (.tuple #[.agg #[.int .i64 a, .int .i64 b, .int .i64 c, .int .i64 d], .bool f])) w' := by subst ha; subst hb; subst hc; subst hd; subst hf; exact ⟨rfl, h⟩
theorem InIs.of {n m : Int} {w w' : World} (h : n = m) (hb : Below w.heap.size w w') : InIs m w (.returned (.int .i64 n)) w' := by subst h; exact ⟨rfl, hb⟩

/-- block b holds the rectangle r. -/
def RcAt (w : World) (b : Nat) (r : Rc) : Prop := w.heap[b]? = some (.cells #[.int .i64 r.X0, .int .i64 r.Y0, .int .i64 r.X1, .int .i64 r.Y1] 43 (0, 0))
section
variable {w w' : World} {b : Nat} {r : Rc}
theorem RcAt.lt (h : RcAt w b r) : b < w.heap.size := (Array.getElem?_eq_some_iff.1 h).1
theorem RcAt.cell0 (h : RcAt w b r) : w.cell? ⟨b, 0, none⟩ = some (.int .i64 r.X0) := by rw [Lib.cell_of_heap h]; rfl
theorem RcAt.cell1 (h : RcAt w b r) : w.cell? ⟨b, 1, none⟩ = some (.int .i64 r.Y0) := by rw [Lib.cell_of_heap h]; rfl
theorem RcAt.cell2 (h : RcAt w b r) : w.cell? ⟨b, 2, none⟩ = some (.int .i64 r.X1) := by rw [Lib.cell_of_heap h]; rfl
theorem RcAt.cell3 (h : RcAt w b r) : w.cell? ⟨b, 3, none⟩ = some (.int .i64 r.Y1) := by rw [Lib.cell_of_heap h]; rfl
theorem RcAt.froz (h : RcAt w b r) (i : Nat) : w.frozen? ⟨b, i, none⟩ = false := Lib.frozen_of_heap h i
theorem RcAt.below {B : Nat} (h : RcAt w b r) (hg : Below B w w') (hr : b < B) : RcAt w' b r := (hg.block b hr).trans h
theorem RcAt.alloc (h : RcAt w b r) (o : Obj) : RcAt (w.alloc o) b r := h.below ((Below.refl _ _).alloc (Nat.le_refl _) o) h.lt
theorem RcAt.new (w : World) (r : Rc) (k : Nat) (h : k = w.heap.size) : RcAt (w.alloc (.cells #[.int .i64 r.X0, .int .i64 r.Y0, .int .i64 r.X1, .int .i64 r.Y1] 43)) k r := by subst h; exact heap_alloc_new w _
end
/-- a row of rectangles at an address. -/
def RRow (w : World) (A : Option Addr) (l : List Rc) : Prop := 0 < l.length → ∃ b off, A = some ⟨b, off, none⟩ ∧ b < w.heap.size ∧ ∀ j (h : j < l.length), w.cell? ⟨b, off + j * 4, none⟩ = some (.int .i64 l[j].X0) ∧ w.cell? ⟨b, off + j * 4 + 1, none⟩ = some (.int .i64 l[j].Y0) ∧ w.cell? ⟨b, off + j * 4 + 2, none⟩ = some (.int .i64 l[j].X1) ∧ w.cell? ⟨b, off + j * 4 + 3, none⟩ = some (.int .i64 l[j].Y1)
theorem RRow.below {w w' : World} {A : Option Addr} {l : List Rc} (h : RRow w A l) (hb : Below w.heap.size w w') : RRow w' A l := fun h0 => by
  obtain ⟨b, off, rfl, hl, hc⟩ := h h0
  exact ⟨b, off, rfl, Nat.lt_of_lt_of_le hl hb.size, fun j hj => ⟨(hb.cell (p := ⟨b, off + j * 4, none⟩) hl).trans (hc j hj).1, (hb.cell (p := ⟨b, off + j * 4 + 1, none⟩) hl).trans (hc j hj).2.1, (hb.cell (p := ⟨b, off + j * 4 + 2, none⟩) hl).trans (hc j hj).2.2.1, (hb.cell (p := ⟨b, off + j * 4 + 3, none⟩) hl).trans (hc j hj).2.2.2⟩⟩

theorem RcAt.c0 {w : World} {b : Nat} {p q r s : Int} (h : RcAt w b ⟨p, q, r, s⟩) : w.cell? ⟨b, 0, none⟩ = some (.int .i64 p) := h.cell0
theorem RcAt.c1 {w : World} {b : Nat} {p q r s : Int} (h : RcAt w b ⟨p, q, r, s⟩) : w.cell? ⟨b, 1, none⟩ = some (.int .i64 q) := h.cell1
theorem RcAt.c2 {w : World} {b : Nat} {p q r s : Int} (h : RcAt w b ⟨p, q, r, s⟩) : w.cell? ⟨b, 2, none⟩ = some (.int .i64 r) := h.cell2
theorem RcAt.c3 {w : World} {b : Nat} {p q r s : Int} (h : RcAt w b ⟨p, q, r, s⟩) : w.cell? ⟨b, 3, none⟩ = some (.int .i64 s) := h.cell3
/-- the rectangles at these blocks, and that nothing that was there at w0 has turned. -/
def Keep : List (Nat × Rc) → World → World → Prop
  | [], w0, w => Below w0.heap.size w0 w
  | (b, r) :: L, w0, w => RcAt w b r ∧ Keep L w0 w
theorem Keep.go : ∀ {L : List (Nat × Rc)} {w0 w w' : World}, Keep L w0 w → Below w.heap.size w w' → Keep L w0 w'
  | [], _, _, _, h, hb => Below.trans h (Below.mono hb (Below.size h))
  | (_, _) :: _, _, _, _, h, hb => ⟨h.1.below hb h.1.lt, Keep.go h.2 hb⟩
theorem Keep.below : ∀ {L : List (Nat × Rc)} {w0 w : World}, Keep L w0 w → Below w0.heap.size w0 w
  | [], _, _, h => h
  | (_, _) :: _, _, _, h => Keep.below h.2
theorem Keep.alloc {L : List (Nat × Rc)} {w0 w : World} (h : Keep L w0 w) (o : Obj) : Keep L w0 (w.alloc o) := h.go ((Below.refl _ _).alloc (Nat.le_refl _) o)
theorem Keep.drewN {L : List (Nat × Rc)} {w0 w : World} (h : Keep L w0 w) (n : Nat) : Keep L w0 (w.drewN n) := h.go (below_drewN (Below.refl _ _) n)
theorem Keep.new {L : List (Nat × Rc)} {w0 w : World} (h : Keep L w0 w) (r : Rc) : Keep ((w.heap.size, r) :: L) w0 (w.alloc (.cells #[.int .i64 r.X0, .int .i64 r.Y0, .int .i64 r.X1, .int .i64 r.Y1] 43)) := ⟨RcAt.new w r _ rfl, h.alloc _⟩
theorem Keep.nil (w : World) : Keep [] w w := Below.refl _ _

/-! ### lists of ints -/
def icells (l : List Int) : List Value := l.map (Value.int .i64)
/-- a list of ints at an address. -/
def IRow (w : World) (A : Option Addr) (l : List Int) : Prop := 0 < l.length → ∃ b off, A = some ⟨b, off, none⟩ ∧ b < w.heap.size ∧ ∀ j (h : j < l.length), w.cell? ⟨b, off + j, none⟩ = some (.int .i64 l[j])
theorem IRow.below {w w' : World} {A : Option Addr} {l : List Int} (h : IRow w A l) (hb : Below w.heap.size w w') : IRow w' A l := fun h0 => by
  obtain ⟨b, off, rfl, hl, hc⟩ := h h0
  exact ⟨b, off, rfl, Nat.lt_of_lt_of_le hl hb.size, fun j hj => (hb.cell (p := ⟨b, off + j, none⟩) hl).trans (hc j hj)⟩
theorem IRow.nil (w : World) (A : Option Addr) : IRow w A [] := fun h => absurd h (by simp)
theorem own_parts {w : World} {B e size n : Nat} {v : Value} {xs : List Value} (h : w.ownsRow B e size v n xs) :
    ∃ A cap, v = .slice A n cap ∧ (0 < n → ∃ g, A = some ⟨g, 0, none⟩ ∧ g < w.heap.size ∧ ∀ j, j < n * size → w.cell? ⟨g, j, none⟩ = xs[j]?) := by
  obtain ⟨hl, hv⟩ := h
  rcases hv with ⟨rfl, rfl⟩ | ⟨g, cap, cur, rfl, hB, hg, h2⟩
  · exact ⟨none, 0, rfl, fun h => absurd h (Nat.lt_irrefl _)⟩
  · refine ⟨_, cap, rfl, fun _ => ⟨g, rfl, ?_, fun j hj => ?_⟩⟩
    · rcases Nat.lt_or_ge g w.heap.size with hlt | hge
      · exact hlt
      · rw [Array.getElem?_eq_none hge] at hg; cases hg
    · exact World.ownsRow.cellAt ⟨hl, .inr ⟨g, cap, cur, rfl, hB, hg, h2⟩⟩ j hj
theorem IRow.of_own {w : World} {B : Nat} {v : Value} {l : List Int} (h : w.ownsRow B 3 1 v l.length (icells l)) : ∃ A cap, v = .slice A l.length cap ∧ IRow w A l := by
  obtain ⟨A, cap, rfl, hA⟩ := own_parts h
  refine ⟨A, cap, rfl, fun h0 => ?_⟩
  obtain ⟨g, rfl, hg, hc⟩ := hA h0
  exact ⟨g, 0, rfl, hg, fun j hj => by rw [Nat.zero_add, hc j (by omega)]; simp [icells, hj]⟩
end Go.Proofs.Ytdnoadngfkiabaa
namespace Go.Proofs.Ytdnoadngfkiabaa
open Go.RowKit

theorem vright_nd (X0 Y0 X1 Y1 : Int) (w : World) : Calls Try.prog 86 #[.agg #[.int .i64 X0, .int .i64 Y0, .int .i64 X1, .int .i64 Y1]] w (BlIs (rokB ⟨X0, Y0, X1, Y1⟩) w) := by
  by_cases c0 : 0 ≤ X0
  · skip
    by_cases c1 : X0 < X1
    · skip
      by_cases c2 : X1 ≤ 1048576
      · skip
        by_cases c3 : 0 ≤ Y0
        · skip
          by_cases c4 : Y0 < Y1
          · skip
            by_cases c5 : Y1 ≤ 1048576
            · skip
              rw [show rokB ⟨X0, Y0, X1, Y1⟩ = true from decide_eq_true ⟨⟨c0, c1, c2⟩, c3, c4, c5⟩]
              go_enter Try.func86, Try.ntmps86
              go_wp2
              go_ret
              exact ⟨rfl, by (repeat' first | exact Below.refl _ _ | assumption | (apply below_drewN) | (refine Below.setCell ?_ (by (try simp); (try omega)) _) | (refine Below.alloc ?_ (by (try simp); (try omega)) _) | (refine Below.trans ?_ (Below.mono (Hid.out (by assumption)) (by (try simp); (try omega)))))⟩
            · rw [show rokB ⟨X0, Y0, X1, Y1⟩ = false from decide_eq_false (fun h => c5 h.2.2.2)]
              go_enter Try.func86, Try.ntmps86
              go_wp2
              go_ret
              exact ⟨by first | rfl | (apply ret_bl; rw [decide_eq_false_iff_not]; omega), by (repeat' first | exact Below.refl _ _ | assumption | (apply below_drewN) | (refine Below.setCell ?_ (by (try simp); (try omega)) _) | (refine Below.alloc ?_ (by (try simp); (try omega)) _) | (refine Below.trans ?_ (Below.mono (Hid.out (by assumption)) (by (try simp); (try omega)))))⟩
          · rw [show rokB ⟨X0, Y0, X1, Y1⟩ = false from decide_eq_false (fun h => c4 h.2.2.1)]
            go_enter Try.func86, Try.ntmps86
            go_wp2
            go_ret
            exact ⟨by first | rfl | (apply ret_bl; rw [decide_eq_false_iff_not]; omega), by (repeat' first | exact Below.refl _ _ | assumption | (apply below_drewN) | (refine Below.setCell ?_ (by (try simp); (try omega)) _) | (refine Below.alloc ?_ (by (try simp); (try omega)) _) | (refine Below.trans ?_ (Below.mono (Hid.out (by assumption)) (by (try simp); (try omega)))))⟩
        · rw [show rokB ⟨X0, Y0, X1, Y1⟩ = false from decide_eq_false (fun h => c3 h.2.1)]
          go_enter Try.func86, Try.ntmps86
          go_wp2
          go_ret
          exact ⟨by first | rfl | (apply ret_bl; rw [decide_eq_false_iff_not]; omega), by (repeat' first | exact Below.refl _ _ | assumption | (apply below_drewN) | (refine Below.setCell ?_ (by (try simp); (try omega)) _) | (refine Below.alloc ?_ (by (try simp); (try omega)) _) | (refine Below.trans ?_ (Below.mono (Hid.out (by assumption)) (by (try simp); (try omega)))))⟩
      · rw [show rokB ⟨X0, Y0, X1, Y1⟩ = false from decide_eq_false (fun h => c2 h.1.2.2)]
        go_enter Try.func86, Try.ntmps86
        go_wp2
        go_ret
        exact ⟨by first | rfl | (apply ret_bl; rw [decide_eq_false_iff_not]; omega), by (repeat' first | exact Below.refl _ _ | assumption | (apply below_drewN) | (refine Below.setCell ?_ (by (try simp); (try omega)) _) | (refine Below.alloc ?_ (by (try simp); (try omega)) _) | (refine Below.trans ?_ (Below.mono (Hid.out (by assumption)) (by (try simp); (try omega)))))⟩
    · rw [show rokB ⟨X0, Y0, X1, Y1⟩ = false from decide_eq_false (fun h => c1 h.1.2.1)]
      go_enter Try.func86, Try.ntmps86
      go_wp2
      go_ret
      exact ⟨by first | rfl | (apply ret_bl; rw [decide_eq_false_iff_not]; omega), by (repeat' first | exact Below.refl _ _ | assumption | (apply below_drewN) | (refine Below.setCell ?_ (by (try simp); (try omega)) _) | (refine Below.alloc ?_ (by (try simp); (try omega)) _) | (refine Below.trans ?_ (Below.mono (Hid.out (by assumption)) (by (try simp); (try omega)))))⟩
  · rw [show rokB ⟨X0, Y0, X1, Y1⟩ = false from decide_eq_false (fun h => c0 h.1.1)]
    go_enter Try.func86, Try.ntmps86
    go_wp2
    go_ret
    exact ⟨by first | rfl | (apply ret_bl; rw [decide_eq_false_iff_not]; omega), by (repeat' first | exact Below.refl _ _ | assumption | (apply below_drewN) | (refine Below.setCell ?_ (by (try simp); (try omega)) _) | (refine Below.alloc ?_ (by (try simp); (try omega)) _) | (refine Below.trans ?_ (Below.mono (Hid.out (by assumption)) (by (try simp); (try omega)))))⟩

/-- the first k of two lists are equal. -/
theorem take_eq_step {α : Type} {l m : List α} {k : Nat} (h1 : k < l.length) (h2 : k < m.length) (h : l.take k = m.take k) (e : l[k] = m[k]) : l.take (k + 1) = m.take (k + 1) := by
  rw [List.take_succ_eq_append_getElem h1, List.take_succ_eq_append_getElem h2, h, e]
instance (l m : List Int) : Decidable (l = m) := inferInstance
set_option maxHeartbeats 8000000 in
theorem vints_any (A1 : Option Addr) (c1 : Nat) (A2 : Option Addr) (c2 : Nat) (l m : List Int) (w : World) (h1 : IRow w A1 l) (h2 : IRow w A2 m) (hl : l.length ≤ 1099511627776) (hm : m.length ≤ 1099511627776) :
    Calls Try.prog 110 #[.slice A1 l.length c1, .slice A2 m.length c2] w (BlIs (decide (l = m)) w) := by
  have H1 := Lib.hid h1; clear h1
  have H2 := Lib.hid h2; clear h2
  by_cases hlen : l.length = m.length
  · have hll : ((l.length : Int) != (m.length : Int)) = false := by simp [hlen]
    go_enter Try.func110, Try.ntmps110
    go_wp2
    go_loopw [5] (fun i wr => ∃ (k q : Nat), k ≤ l.length ∧ i = .int .i64 k ∧ wr = w.drewN q ∧ l.take k = m.take k) (fun i _ => l.length - (intOf i).toNat)
    case atStart => exact ⟨0, 0, Nat.zero_le _, rfl, rfl, rfl⟩
    case round =>
      obtain ⟨k, q, hk, rfl, rfl, ht⟩ := hrel
      by_cases hlt : k < l.length
      · obtain ⟨b1, o1, rfl, hb1, hv1⟩ := H1.out (by omega)
        obtain ⟨b2, o2, rfl, hb2, hv2⟩ := H2.out (by omega)
        have x1 := hv1 k hlt
        have x2 := hv2 k (by omega)
        have hk2 : k < m.length := by omega
        have HT := Lib.hid (take_eq_step hlt hk2 ht); clear ht
        have HNE : Hid (l[k] ≠ m[k] → l ≠ m) := Lib.hid (fun h e => h (by subst e; rfl))
        have i0 : (0 : Int) ≤ (k : Int) := by omega
        have i1 : (k : Int) < (l.length : Int) := by omega
        have i2 : (k : Int) < (m.length : Int) := by omega
        clear hv1 hv2
        generalize l[k] = u at *
        generalize m[k] = v at *
        by_cases e : u = v
        · have hne : (u != v) = false := by simp [e]
          have HT2 := Lib.hid (HT.out e); clear HT HNE e
          go_wp2_with fail
          go_quiet (fail)
          go_wp2
          go_roundw
          case rel => exact ⟨k + 1, _, by omega, by go_num, rfl, HT2.out⟩
          case measure => simp [intOf]; omega
        · have hne : (u != v) = true := by simp [e]
          have HN := Lib.hid (HNE.out e); clear HT HNE e
          go_wp2_with fail
          go_quiet (fail)
          go_wp2
          go_ret
          exact ⟨by rw [decide_eq_false HN.out]; rfl, by (repeat' first | exact Below.refl _ _ | assumption | (apply below_drewN) | (refine Below.setCell ?_ (by (try simp); (try omega)) _) | (refine Below.alloc ?_ (by (try simp); (try omega)) _) | (refine Below.trans ?_ (Below.mono (Hid.out (by assumption)) (by (try simp); (try omega)))))⟩
      · obtain rfl : k = l.length := by omega
        have he : l = m := by
          rw [List.take_length] at ht
          rw [ht, hlen, List.take_length]
        go_wp2
        go_ret
        exact ⟨by rw [decide_eq_true he]; rfl, by (repeat' first | exact Below.refl _ _ | assumption | (apply below_drewN) | (refine Below.setCell ?_ (by (try simp); (try omega)) _) | (refine Below.alloc ?_ (by (try simp); (try omega)) _) | (refine Below.trans ?_ (Below.mono (Hid.out (by assumption)) (by (try simp); (try omega)))))⟩
  · have hll : ((l.length : Int) != (m.length : Int)) = true := by simp; omega
    rw [decide_eq_false (fun e => hlen (by rw [e]))]
    go_enter Try.func110, Try.ntmps110
    go_wp2
    go_ret
    exact ⟨rfl, by (repeat' first | exact Below.refl _ _ | assumption | (apply below_drewN) | (refine Below.setCell ?_ (by (try simp); (try omega)) _) | (refine Below.alloc ?_ (by (try simp); (try omega)) _) | (refine Below.trans ?_ (Below.mono (Hid.out (by assumption)) (by (try simp); (try omega)))))⟩

theorem rc_parts {u v : Rc} : u = v ∨ (u ≠ v ∧ ((u.X0 == v.X0) = false ∨ (u.X0 = v.X0 ∧ (u.Y0 == v.Y0) = false) ∨ (u.X0 = v.X0 ∧ u.Y0 = v.Y0 ∧ (u.X1 == v.X1) = false) ∨ (u.X0 = v.X0 ∧ u.Y0 = v.Y0 ∧ u.X1 = v.X1 ∧ (u.Y1 == v.Y1) = false))) := by
  by_cases e : u = v
  · exact Or.inl e
  · refine Or.inr ⟨e, ?_⟩
    by_cases c0 : u.X0 = v.X0
    · by_cases c1 : u.Y0 = v.Y0
      · by_cases c2 : u.X1 = v.X1
        · by_cases c3 : u.Y1 = v.Y1
          · exact absurd (Rc.eq c0 c1 c2 c3) e
          · exact Or.inr (Or.inr (Or.inr ⟨c0, c1, c2, by simp [c3]⟩))
        · exact Or.inr (Or.inr (Or.inl ⟨c0, c1, by simp [c2]⟩))
      · exact Or.inr (Or.inl ⟨c0, by simp [c1]⟩)
    · exact Or.inl (by simp [c0])
set_option maxHeartbeats 16000000 in
theorem vsame_any (A1 : Option Addr) (c1 : Nat) (A2 : Option Addr) (c2 : Nat) (l m : List Rc) (w : World) (h1 : RRow w A1 l) (h2 : RRow w A2 m) (hl : l.length ≤ 1099511627776) (hm : m.length ≤ 1099511627776) :
    Calls Try.prog 47 #[.slice A1 l.length c1, .slice A2 m.length c2] w (BlIs (decide (l = m)) w) := by
  have H1 := Lib.hid h1; clear h1
  have H2 := Lib.hid h2; clear h2
  by_cases hlen : l.length = m.length
  · have hll : ((l.length : Int) != (m.length : Int)) = false := by simp [hlen]
    go_enter Try.func47, Try.ntmps47
    go_wp2
    go_loopw [5] (fun i wr => ∃ (k q : Nat), k ≤ l.length ∧ i = .int .i64 k ∧ wr = w.drewN q ∧ l.take k = m.take k) (fun i _ => l.length - (intOf i).toNat)
    case atStart => exact ⟨0, 0, Nat.zero_le _, rfl, rfl, rfl⟩
    case round =>
      obtain ⟨k, q, hk, rfl, rfl, ht⟩ := hrel
      by_cases hlt : k < l.length
      · obtain ⟨b1, o1, rfl, hb1, hv1⟩ := H1.out (by omega)
        obtain ⟨b2, o2, rfl, hb2, hv2⟩ := H2.out (by omega)
        obtain ⟨x0, x1, x2, x3⟩ := hv1 k hlt
        obtain ⟨y0, y1, y2, y3⟩ := hv2 k (by omega)
        have hk2 : k < m.length := by omega
        have HT := Lib.hid (take_eq_step hlt hk2 ht); clear ht
        have HNE : Hid (l[k] ≠ m[k] → l ≠ m) := Lib.hid (fun h e => h (by subst e; rfl))
        have i0 : (0 : Int) ≤ (k : Int) := by omega
        have i1 : (k : Int) < (l.length : Int) := by omega
        have i2 : (k : Int) < (m.length : Int) := by omega
        clear hv1 hv2
        generalize l[k] = u at *
        generalize m[k] = v at *
        rcases rc_parts (u := u) (v := v) with rfl | ⟨e, hd⟩
        · have HT2 := Lib.hid (HT.out rfl); clear HT HNE
          go_wp2_with fail
          go_quiet (fail)
          go_wp2
          go_roundw
          case rel => exact ⟨k + 1, _, by omega, by go_num, rfl, HT2.out⟩
          case measure => simp [intOf]; omega
        · have HN := Lib.hid (HNE.out e); clear HT HNE e
          rcases hd with d0 | ⟨d0, d1⟩ | ⟨d0, d1, d2⟩ | ⟨d0, d1, d2, d3⟩
          all_goals
            go_wp2_with fail
            go_quiet (fail)
            go_wp2
            go_ret
            exact ⟨by rw [decide_eq_false HN.out]; rfl, by (repeat' first | exact Below.refl _ _ | assumption | (apply below_drewN) | (refine Below.setCell ?_ (by (try simp); (try omega)) _) | (refine Below.alloc ?_ (by (try simp); (try omega)) _) | (refine Below.trans ?_ (Below.mono (Hid.out (by assumption)) (by (try simp); (try omega)))))⟩
      · obtain rfl : k = l.length := by omega
        have he : l = m := by
          rw [List.take_length] at ht
          rw [ht, hlen, List.take_length]
        go_wp2
        go_ret
        exact ⟨by rw [decide_eq_true he]; rfl, by (repeat' first | exact Below.refl _ _ | assumption | (apply below_drewN) | (refine Below.setCell ?_ (by (try simp); (try omega)) _) | (refine Below.alloc ?_ (by (try simp); (try omega)) _) | (refine Below.trans ?_ (Below.mono (Hid.out (by assumption)) (by (try simp); (try omega)))))⟩
  · have hll : ((l.length : Int) != (m.length : Int)) = true := by simp; omega
    rw [decide_eq_false (fun e => hlen (by rw [e]))]
    go_enter Try.func47, Try.ntmps47
    go_wp2
    go_ret
    exact ⟨rfl, by (repeat' first | exact Below.refl _ _ | assumption | (apply below_drewN) | (refine Below.setCell ?_ (by (try simp); (try omega)) _) | (refine Below.alloc ?_ (by (try simp); (try omega)) _) | (refine Below.trans ?_ (Below.mono (Hid.out (by assumption)) (by (try simp); (try omega)))))⟩
end Go.Proofs.Ytdnoadngfkiabaa
