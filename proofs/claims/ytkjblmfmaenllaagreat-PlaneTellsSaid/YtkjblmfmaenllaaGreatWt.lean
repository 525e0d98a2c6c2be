/-
  What contracts over rectangles and lists of them say, for seats without layer 5's texts (as Ec, Eh, Ei, Eq hold it); lists of ints.
  Plain mathematics of solids (layer 9), 2: boxes, the solid of a list of boxes, the operations, sets of cubes, the volume. No program in this text.
  Contracts of the reference of layer 6 (2): what combine's contracts say.
-/
import Derived.Test.YtkjblmfmaenllaaGreatProg
import Derived.Test.YtkjblmfmaenllaaGreatRa
import Derived.WalkKit
import Derived.Lib.Hide
import Derived.WalkLawsBesides
import Derived.WalkSpells
import Derived.Outline
import Derived.BigQuiet
import Derived.Deep.QuietTactic
import Derived.OwnWalk
import Derived.Deep.OwnRows
import Derived.Laws.OwnMore
import Derived.IntWalk
import Derived.Test.YtkjblmfmaenllaaGreatRc
set_option linter.unusedVariables false
set_option maxRecDepth 100000
namespace Go.Proofs.YtkjblmfmaenllaaGreat
open Go.RowKit

def In64 (n : Int) : Prop := -9223372036854775808 ≤ n ∧ n ≤ 9223372036854775807
def InR (r : Rc) : Prop := In64 r.X0 ∧ In64 r.Y0 ∧ In64 r.X1 ∧ In64 r.Y1
theorem bcell {W w1 : World} (hb : Below W.heap.size W w1) : (∀ b o, b < W.heap.size → w1.cell? ⟨b, o, none⟩ = W.cell? ⟨b, o, none⟩) ∧ (∀ b o, b < W.heap.size → w1.frozen? ⟨b, o, none⟩ = W.frozen? ⟨b, o, none⟩) :=
  ⟨fun b o h => hb.cell (p := ⟨b, o, none⟩) h, fun b o h => hb.frozen (p := ⟨b, o, none⟩) h⟩
theorem ret_bl {a b : Bool} (h : a = b) : Ending.returned (.bool a) = .returned (.bool b) := by rw [h]
/-- a bool, a number, a rectangle with a bool: in new memory. -/
def BlIs (b : Bool) (w : World) (e : Ending) (w' : World) : Prop := e = .returned (.bool b) ∧ Below w.heap.size w w'
def InIs (n : Int) (w : World) (e : Ending) (w' : World) : Prop := e = .returned (.int .i64 n) ∧ Below w.heap.size w w'
def RbIs (x : Rc × Bool) (w : World) (e : Ending) (w' : World) : Prop := e = .returned (.tuple #[.agg #[.int .i64 x.1.X0, .int .i64 x.1.Y0, .int .i64 x.1.X1, .int .i64 x.1.Y1], .bool x.2]) ∧ Below w.heap.size w w'
theorem RbIs.of {x : Rc × Bool} {w w' : World} {a b c d : Int} {f : Bool} (ha : a = x.1.X0) (hb : b = x.1.Y0) (hc : c = x.1.X1) (hd : d = x.1.Y1) (hf : f = x.2) (h : Below w.heap.size w w') :
    RbIs x w (.returned (.tuple #[.agg #[.int .i64 a, .int .i64 b, .int .i64 c, .int .i64 d], .bool f])) w' := by subst ha; subst hb; subst hc; subst hd; subst hf; exact ⟨rfl, h⟩
theorem InIs.of {n m : Int} {w w' : World} (h : n = m) (hb : Below w.heap.size w w') : InIs m w (.returned (.int .i64 n)) w' := by subst h; exact ⟨rfl, hb⟩

/-- block b holds the rectangle r. -/
def RcAt (w : World) (b : Nat) (r : Rc) : Prop := w.heap[b]? = some (.cells #[.int .i64 r.X0, .int .i64 r.Y0, .int .i64 r.X1, .int .i64 r.Y1] 33 (0, 0))
section
variable {w w' : World} {b : Nat} {r : Rc}
theorem RcAt.lt (h : RcAt w b r) : b < w.heap.size := (Array.getElem?_eq_some_iff.1 h).1
theorem RcAt.cell0 (h : RcAt w b r) : w.cell? ⟨b, 0, none⟩ = some (.int .i64 r.X0) := by rw [Lib.cell_of_heap h]; rfl
theorem RcAt.cell1 (h : RcAt w b r) : w.cell? ⟨b, 1, none⟩ = some (.int .i64 r.Y0) := by rw [Lib.cell_of_heap h]; rfl
theorem RcAt.cell2 (h : RcAt w b r) : w.cell? ⟨b, 2, none⟩ = some (.int .i64 r.X1) := by rw [Lib.cell_of_heap h]; rfl
theorem RcAt.cell3 (h : RcAt w b r) : w.cell? ⟨b, 3, none⟩ = some (.int .i64 r.Y1) := by rw [Lib.cell_of_heap h]; rfl
theorem RcAt.froz (h : RcAt w b r) (i : Nat) : w.frozen? ⟨b, i, none⟩ = false := Lib.frozen_of_heap h i
theorem RcAt.below {B : Nat} (h : RcAt w b r) (hg : Below B w w') (hr : b < B) : RcAt w' b r := (hg.block b hr).trans h
theorem RcAt.alloc (h : RcAt w b r) (o : Obj) : RcAt (w.alloc o) b r := h.below ((Below.refl _ _).alloc (Nat.le_refl _) o) h.lt
theorem RcAt.new (w : World) (r : Rc) (k : Nat) (h : k = w.heap.size) : RcAt (w.alloc (.cells #[.int .i64 r.X0, .int .i64 r.Y0, .int .i64 r.X1, .int .i64 r.Y1] 33)) k r := by subst h; exact heap_alloc_new w _
end
/-- a row of rectangles at an address. -/
def RRow (w : World) (A : Option Addr) (l : List Rc) : Prop := 0 < l.length → ∃ b off, A = some ⟨b, off, none⟩ ∧ b < w.heap.size ∧ ∀ j (h : j < l.length), w.cell? ⟨b, off + j * 4, none⟩ = some (.int .i64 l[j].X0) ∧ w.cell? ⟨b, off + j * 4 + 1, none⟩ = some (.int .i64 l[j].Y0) ∧ w.cell? ⟨b, off + j * 4 + 2, none⟩ = some (.int .i64 l[j].X1) ∧ w.cell? ⟨b, off + j * 4 + 3, none⟩ = some (.int .i64 l[j].Y1)
theorem RRow.below {w w' : World} {A : Option Addr} {l : List Rc} (h : RRow w A l) (hb : Below w.heap.size w w') : RRow w' A l := fun h0 => by
  obtain ⟨b, off, rfl, hl, hc⟩ := h h0
  exact ⟨b, off, rfl, Nat.lt_of_lt_of_le hl hb.size, fun j hj => ⟨(hb.cell (p := ⟨b, off + j * 4, none⟩) hl).trans (hc j hj).1, (hb.cell (p := ⟨b, off + j * 4 + 1, none⟩) hl).trans (hc j hj).2.1, (hb.cell (p := ⟨b, off + j * 4 + 2, none⟩) hl).trans (hc j hj).2.2.1, (hb.cell (p := ⟨b, off + j * 4 + 3, none⟩) hl).trans (hc j hj).2.2.2⟩⟩

theorem RcAt.c0 {w : World} {b : Nat} {p q r s : Int} (h : RcAt w b ⟨p, q, r, s⟩) : w.cell? ⟨b, 0, none⟩ = some (.int .i64 p) := h.cell0
theorem RcAt.c1 {w : World} {b : Nat} {p q r s : Int} (h : RcAt w b ⟨p, q, r, s⟩) : w.cell? ⟨b, 1, none⟩ = some (.int .i64 q) := h.cell1
theorem RcAt.c2 {w : World} {b : Nat} {p q r s : Int} (h : RcAt w b ⟨p, q, r, s⟩) : w.cell? ⟨b, 2, none⟩ = some (.int .i64 r) := h.cell2
theorem RcAt.c3 {w : World} {b : Nat} {p q r s : Int} (h : RcAt w b ⟨p, q, r, s⟩) : w.cell? ⟨b, 3, none⟩ = some (.int .i64 s) := h.cell3
/-- the rectangles at these blocks, and that nothing that was there at w0 has turned. -/
def Keep : List (Nat × Rc) → World → World → Prop
  | [], w0, w => Below w0.heap.size w0 w
  | (b, r) :: L, w0, w => RcAt w b r ∧ Keep L w0 w
theorem Keep.go : ∀ {L : List (Nat × Rc)} {w0 w w' : World}, Keep L w0 w → Below w.heap.size w w' → Keep L w0 w'
  | [], _, _, _, h, hb => Below.trans h (Below.mono hb (Below.size h))
  | (_, _) :: _, _, _, _, h, hb => ⟨h.1.below hb h.1.lt, Keep.go h.2 hb⟩
theorem Keep.below : ∀ {L : List (Nat × Rc)} {w0 w : World}, Keep L w0 w → Below w0.heap.size w0 w
  | [], _, _, h => h
  | (_, _) :: _, _, _, h => Keep.below h.2
theorem Keep.alloc {L : List (Nat × Rc)} {w0 w : World} (h : Keep L w0 w) (o : Obj) : Keep L w0 (w.alloc o) := h.go ((Below.refl _ _).alloc (Nat.le_refl _) o)
theorem Keep.drewN {L : List (Nat × Rc)} {w0 w : World} (h : Keep L w0 w) (n : Nat) : Keep L w0 (w.drewN n) := h.go (below_drewN (Below.refl _ _) n)
theorem Keep.new {L : List (Nat × Rc)} {w0 w : World} (h : Keep L w0 w) (r : Rc) : Keep ((w.heap.size, r) :: L) w0 (w.alloc (.cells #[.int .i64 r.X0, .int .i64 r.Y0, .int .i64 r.X1, .int .i64 r.Y1] 33)) := ⟨RcAt.new w r _ rfl, h.alloc _⟩
theorem Keep.nil (w : World) : Keep [] w w := Below.refl _ _

/-! ### lists of ints -/
def icells (l : List Int) : List Value := l.map (Value.int .i64)
/-- a list of ints at an address. -/
def IRow (w : World) (A : Option Addr) (l : List Int) : Prop := 0 < l.length → ∃ b off, A = some ⟨b, off, none⟩ ∧ b < w.heap.size ∧ ∀ j (h : j < l.length), w.cell? ⟨b, off + j, none⟩ = some (.int .i64 l[j])
theorem IRow.below {w w' : World} {A : Option Addr} {l : List Int} (h : IRow w A l) (hb : Below w.heap.size w w') : IRow w' A l := fun h0 => by
  obtain ⟨b, off, rfl, hl, hc⟩ := h h0
  exact ⟨b, off, rfl, Nat.lt_of_lt_of_le hl hb.size, fun j hj => (hb.cell (p := ⟨b, off + j, none⟩) hl).trans (hc j hj)⟩
theorem IRow.nil (w : World) (A : Option Addr) : IRow w A [] := fun h => absurd h (by simp)
theorem own_parts {w : World} {B e size n : Nat} {v : Value} {xs : List Value} (h : w.ownsRow B e size v n xs) :
    ∃ A cap, v = .slice A n cap ∧ (0 < n → ∃ g, A = some ⟨g, 0, none⟩ ∧ g < w.heap.size ∧ ∀ j, j < n * size → w.cell? ⟨g, j, none⟩ = xs[j]?) := by
  obtain ⟨hl, hv⟩ := h
  rcases hv with ⟨rfl, rfl⟩ | ⟨g, cap, cur, rfl, hB, hg, h2⟩
  · exact ⟨none, 0, rfl, fun h => absurd h (Nat.lt_irrefl _)⟩
  · refine ⟨_, cap, rfl, fun _ => ⟨g, rfl, ?_, fun j hj => ?_⟩⟩
    · rcases Nat.lt_or_ge g w.heap.size with hlt | hge
      · exact hlt
      · rw [Array.getElem?_eq_none hge] at hg; cases hg
    · exact World.ownsRow.cellAt ⟨hl, .inr ⟨g, cap, cur, rfl, hB, hg, h2⟩⟩ j hj
theorem IRow.of_own {w : World} {B : Nat} {v : Value} {l : List Int} (h : w.ownsRow B 3 1 v l.length (icells l)) : ∃ A cap, v = .slice A l.length cap ∧ IRow w A l := by
  obtain ⟨A, cap, rfl, hA⟩ := own_parts h
  refine ⟨A, cap, rfl, fun h0 => ?_⟩
  obtain ⟨g, rfl, hg, hc⟩ := hA h0
  exact ⟨g, 0, rfl, hg, fun j hj => by rw [Nat.zero_add, hc j (by omega)]; simp [icells, hj]⟩
end Go.Proofs.YtkjblmfmaenllaaGreat
namespace Go.Proofs.YtkjblmfmaenllaaGreat

/-- a box: base and heights. -/
structure Bx where
  r : Rc
  z0 : Int
  z1 : Int
def BOk (b : Bx) : Prop := ROk b.r ∧ HOk b.z0 b.z1
instance (b : Bx) : Decidable (BOk b) := by unfold BOk; infer_instance
instance (l : List Bx) : Decidable (∀ b ∈ l, BOk b) := List.decidableBAll (fun b => BOk b) l
def basesB : List Bx → Int → List Rc
  | [], _ => []
  | b :: l, z => if b.z0 ≤ z ∧ z < b.z1 then b.r :: basesB l z else basesB l z
theorem bases_append (l m : List Bx) (z : Int) : basesB (l ++ m) z = basesB l z ++ basesB m z := by
  induction l with
  | nil => rfl
  | cons b l ih =>
    rw [List.cons_append, basesB, basesB, ih]
    split
    · rw [List.cons_append]
    · rfl
theorem bases_mem {l : List Bx} {z : Int} {r : Rc} : r ∈ basesB l z ↔ ∃ b ∈ l, b.r = r ∧ b.z0 ≤ z ∧ z < b.z1 := by
  induction l with
  | nil => simp [basesB]
  | cons b l ih =>
    rw [basesB]
    split
    · next c =>
      rw [List.mem_cons, ih]
      constructor
      · rintro (rfl | ⟨d, hd, k⟩)
        · exact ⟨b, List.mem_cons_self, rfl, c⟩
        · exact ⟨d, List.mem_cons_of_mem _ hd, k⟩
      · rintro ⟨d, hd, k⟩
        rcases List.mem_cons.1 hd with rfl | hd
        · exact Or.inl k.1.symm
        · exact Or.inr ⟨d, hd, k⟩
    · next c =>
      rw [ih]
      constructor
      · rintro ⟨d, hd, k⟩; exact ⟨d, List.mem_cons_of_mem _ hd, k⟩
      · rintro ⟨d, hd, k⟩
        rcases List.mem_cons.1 hd with rfl | hd
        · exact absurd k.2 c
        · exact ⟨d, hd, k⟩
theorem bases_len (l : List Bx) (z : Int) : (basesB l z).length ≤ l.length := by
  induction l with
  | nil => exact Nat.le_refl _
  | cons b l ih => rw [basesB]; split <;> simp only [List.length_cons] <;> omega
theorem bases_ok {l : List Bx} (h : ∀ b ∈ l, BOk b) (z : Int) : ∀ r ∈ basesB l z, ROk r := by
  intro r hr
  obtain ⟨b, hb, rfl, _⟩ := bases_mem.1 hr
  exact (h b hb).1
def htB (l : List Bx) : List Int := l.flatMap fun b => [b.z0, b.z1]
theorem htB_mem {l : List Bx} {z : Int} : z ∈ htB l ↔ ∃ b ∈ l, z = b.z0 ∨ z = b.z1 := by simp [htB]
theorem htB_len (l : List Bx) : (htB l).length = 2 * l.length := by
  induction l with
  | nil => rfl
  | cons b l ih => rw [show htB (b :: l) = b.z0 :: b.z1 :: htB l from rfl, List.length_cons, List.length_cons, ih, List.length_cons]; omega
theorem htB_next (l : List Bx) (k : Nat) (h : k < l.length) : htB (l.take (k + 1)) = htB (l.take k) ++ [l[k].z0, l[k].z1] := by
  unfold htB; rw [List.take_succ_eq_append_getElem h, List.flatMap_append]; simp
theorem htB_in {l : List Bx} (h : ∀ b ∈ l, BOk b) : InZ (htB l) := by
  intro z hz
  obtain ⟨b, hb, e⟩ := htB_mem.1 hz
  have := (h b hb).2
  unfold HOk at this
  omega
def secB (l : List Bx) (z : Int) : List Rc := formL (basesB l z)
theorem form_nil : formL [] = [] := by decide
theorem secB_form {l : List Bx} (h : ∀ b ∈ l, BOk b) (z : Int) : IsForm (secB l z) := (formL_is (bases_ok h z)).1
theorem bases_same {l : List Bx} {z z' : Int} (h1 : z ≤ z') (h : ∀ x ∈ htB l, ¬ (z < x ∧ x ≤ z')) : basesB l z = basesB l z' := by
  induction l with
  | nil => rfl
  | cons b l ih =>
    have e : htB (b :: l) = b.z0 :: b.z1 :: htB l := rfl
    rw [e] at h
    have k0 := h b.z0 List.mem_cons_self
    have k1 := h b.z1 (List.mem_cons_of_mem _ List.mem_cons_self)
    have ih := ih (fun x hx => h x (List.mem_cons_of_mem _ (List.mem_cons_of_mem _ hx)))
    rw [basesB, basesB, ih]
    by_cases c : b.z0 ≤ z ∧ z < b.z1
    · rw [if_pos c, if_pos (by omega)]
    · rw [if_neg c, if_neg (by omega)]
theorem bases_out {l : List Bx} {z : Int} (h : ∀ b ∈ l, ¬ (b.z0 ≤ z ∧ z < b.z1)) : basesB l z = [] := by
  induction l with
  | nil => rfl
  | cons b l ih =>
    rw [basesB, if_neg (h b List.mem_cons_self)]
    exact ih (fun d hd => h d (List.mem_cons_of_mem _ hd))
theorem chgB (l : List Bx) : Chg (secB l) (htB l) := by
  refine ⟨fun z z' h1 h2 => by unfold secB; rw [bases_same h1 h2], fun z h => ?_, fun z h => ?_⟩
  · unfold secB
    rw [bases_out (fun b hb => by have := h b.z0 (htB_mem.2 ⟨b, hb, Or.inl rfl⟩); omega), form_nil]
  · unfold secB
    rw [bases_out (fun b hb => by have := h b.z1 (htB_mem.2 ⟨b, hb, Or.inr rfl⟩); omega), form_nil]
/-- the solid of a list of boxes. -/
def solB (l : List Bx) : List Sl := solGo (secB l) [] (sortS (htB l))
theorem solB_is {l : List Bx} (h : ∀ b ∈ l, BOk b) : SForm (solB l) ∧ ∀ z, secS (solB l) z = secB l z := by
  obtain ⟨s1, s2⟩ := sortS_is (htB l)
  exact sol_is (secB_form h) s1 (fun x hx => htB_in h x ((s2 x).1 hx)) ((chgB l).of (fun z => (s2 z).symm))
def ofS (l : List Bx) : List Sl × Int := if ∀ b ∈ l, BOk b then (if l.length ≤ 200 then capS (solB l) else ([], 6)) else ([], 1)
/-! ### the operations -/
/-! ### sets of cubes -/
structure CS (S : List Sl) (P : Int → Int → Int → Prop) : Prop where
  form : SForm S
  cubes : ∀ x y z, HasL (secS S z) x y ↔ P x y z
theorem CS.eq {S T : List Sl} {P Q : Int → Int → Int → Prop} (h : CS S P) (k : CS T Q) (e : ∀ x y z, P x y z ↔ Q x y z) : S = T :=
  solid_eq h.form k.form (fun z => form_eq (sec_form h.form z) (sec_form k.form z) (fun x y => by rw [h.cubes, k.cubes, e]))
theorem CS.of {S : List Sl} {P Q : Int → Int → Int → Prop} (h : CS S P) (e : ∀ x y z, P x y z ↔ Q x y z) : CS S Q := ⟨h.form, fun x y z => by rw [h.cubes, e]⟩
/-! ### sizes -/
/-! ### the volume -/
def volS : List Sl → Int
  | [] => 0
  | s :: S => areaL s.ar * (s.z1 - s.z0) + volS S
end Go.Proofs.YtkjblmfmaenllaaGreat
namespace Go.Proofs.YtkjblmfmaenllaaGreat
open Go.RowKit

theorem infoInt : (Tryz.prog.info? 3).map (fun i => (i.zero, i.size, i.bytes)) = some (some (.int .i64 0), 1, 8) := by kernel_rfl
/-- a slice of ints that the call made, and nothing that was there has turned. -/
structure OwnI (v : Value) (l : List Int) (w wr : World) : Prop where
  own : wr.ownsRow w.heap.size 3 1 v l.length (icells l)
  bel : Below w.heap.size w wr
theorem OwnI.drewN {v : Value} {l : List Int} {w wr : World} (h : OwnI v l w wr) (n : Nat) : OwnI v l w (wr.drewN n) := by
  refine ⟨?_, below_drewN h.bel n⟩
  obtain ⟨h1, h2⟩ := h.own
  exact ⟨h1, h2⟩
theorem icells_snoc (l : List Int) (x : Int) : icells (l ++ [x]) = icells l ++ [.int .i64 x] := by simp [icells]
theorem tmod_even {p : Nat} (h : p % 2 = 0) : Int.tmod (p : Int) 2 = 0 ∧ Int.tmod ((p : Int) + 1) 2 = 1 := by
  rw [Int.tmod_eq_emod_of_nonneg (by omega), Int.tmod_eq_emod_of_nonneg (by omega)]; omega
theorem tmod_odd {p : Nat} (h : p % 2 = 1) : Int.tmod (p : Int) 2 = 1 ∧ Int.tmod ((p : Int) + 1) 2 = 0 := by
  rw [Int.tmod_eq_emod_of_nonneg (by omega), Int.tmod_eq_emod_of_nonneg (by omega)]; omega
/-- where the loop stands. -/
def CombAt (op : Bool → Bool → Bool) (a b : List Int) (p q : Nat) (P Q : Bool) (l : List Int) : Prop := l ++ combGo op (a.drop p) (b.drop q) P Q (op P Q) = comb op a b
theorem drop_at {l : List Int} {p : Nat} (h : p < l.length) : l.drop p = l[p] :: l.drop (p + 1) := List.drop_eq_getElem_cons h
end Go.Proofs.YtkjblmfmaenllaaGreat
