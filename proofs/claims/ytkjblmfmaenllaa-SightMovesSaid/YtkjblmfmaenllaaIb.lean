/-
  RegionAlgebra: an append of a slice that was handed in, and what the sets say.
-/
import Derived.Test.YtkjblmfmaenllaaHr
import Derived.Test.YtkjblmfmaenllaaIa
import Derived.Laws.AppendOwnNone
set_option linter.unusedVariables false
set_option maxRecDepth 100000
namespace Go.Proofs.Ytkjblmfmaenllaa
open Go.RowKit

/-- the source of an append: nil, or cells that can be read. -/
def Src (w : World) (v2 : Value) (m : Nat) (news : List Value) : Prop := (v2 = .slice none 0 0 ∧ m = 0 ∧ news = []) ∨ ∃ ad c, v2 = .slice (some ad) m c ∧ news.length = m * 4 ∧ (∀ j u, news[j]? = some u → w.cell? (ad.add j) = some u) ∧ ∀ u ∈ news, u.oneCell' = true
theorem wpList_append_src {P : Program} {w : World} {ops : Array Oper} {rest : List Oper} {o : Oper} {a : Act} {Q : Exit → Act → World → Prop} (hgd : o.guard = none) (s x : Operand) (t : TypeId)
    (ho : o.op = .call { callee := .builtin .append, args := #[s, x], argTypes := #[t, t] })
    (base : Nat) (e : TypeId) (i : TypeInfo) (z : Value) (bytes : Nat) (ht : P.underlying t = some (.slice e)) (hi : P.info? e = some i) (hz : i.zero = some z)
    (hsize : i.size = 4) (hby : i.bytes = bytes) (hzs : z.cells.size = 4)
    (v : Value) (n : Nat) (xs : List Value) (hs : a.eval s = v) (hown : w.ownsRow base e 4 v n xs)
    (v2 : Value) (m : Nat) (news : List Value) (hx : a.eval x = v2) (hsrc : Src w v2 m news)
    (h63 : n + m ≤ maxLen) (hbytes : (n + m) * bytes ≤ 140737488355328) (hbase : base ≤ w.heap.size)
    (h : ∀ v' w', w'.ownsRow base e 4 v' (n + m) (xs ++ news) → w.grownBy w' v.ownBlock → wpList P ops Q rest (a.put o.dst v') w') : wpList P ops Q (o :: rest) a w := by
  rcases hsrc with ⟨h1, rfl, rfl⟩ | ⟨ad, c, h1, h2, h3, h4⟩
  · exact wpList_append_own_none hgd s x t ho base e i 4 ht hi v n xs hs hown (hx.trans h1) (h v w (by rw [List.append_nil]; exact hown) (World.grownBy.refl _ _))
  · exact wpList_append_own w hgd s x t ho base e i z 4 bytes ht hi hz hsize hby hzs (by decide) v n xs hs hown ad m c news (hx.trans h1) h2 h3 h4 h63 hbytes hbase (fun v' w' a b _ => h v' w' a b)
theorem rcells_back (l : List Rc) (t : Nat) (u : Value) (h : (rcells l)[t]? = some u) : t / 4 < l.length := by
  have := (List.getElem?_eq_some_iff.1 h).1
  rw [rcells_len] at this
  omega
theorem src_of {w : World} {A : Option Addr} {cap : Nat} {l : List Rc} (h : RIn w A cap l) (hn : A = none → cap = 0) : Src w (.slice A l.length cap) l.length (rcells l) := by
  cases A with
  | none =>
    have h1 := hn rfl
    have h2 := h.room
    have h3 : l.length = 0 := by omega
    obtain rfl := List.length_eq_zero_iff.1 h3
    exact Or.inl ⟨by rw [h1]; rfl, rfl, rfl⟩
  | some ad =>
    refine Or.inr ⟨ad, cap, rfl, rcells_len l, fun j u hu => ?_, rcells_one l⟩
    have hj := rcells_back l j u hu
    obtain ⟨b, o, e, hb, hc⟩ := h.row (by omega)
    injection e with e
    subst e
    obtain ⟨c0, c1, c2, c3⟩ := hc _ hj
    obtain ⟨d0, d1, d2, d3⟩ := rcells_at l _ hj
    have hadd : (⟨b, o, none⟩ : Addr).add j = ⟨b, o + j, none⟩ := by unfold Addr.add; split <;> simp_all
    rw [hadd]
    have hm : j % 4 = 0 ∨ j % 4 = 1 ∨ j % 4 = 2 ∨ j % 4 = 3 := by omega
    rcases hm with hm | hm | hm | hm
    · rw [show j = j / 4 * 4 by omega] at hu ⊢
      rw [d0] at hu; rw [c0]; exact hu
    · rw [show j = j / 4 * 4 + 1 by omega] at hu ⊢
      rw [d1] at hu; rw [← Nat.add_assoc, c1]; exact hu
    · rw [show j = j / 4 * 4 + 2 by omega] at hu ⊢
      rw [d2] at hu; rw [← Nat.add_assoc, c2]; exact hu
    · rw [show j = j / 4 * 4 + 3 by omega] at hu ⊢
      rw [d3] at hu; rw [← Nat.add_assoc, c3]; exact hu

/-! ### the sets -/
/-- a set of cells and its form. -/
structure FS (F : List Rc) (S : Int → Int → Prop) : Prop where
  form : IsForm F
  cells : ∀ x y, HasL F x y ↔ S x y
theorem FS.eq {F G : List Rc} {S S' : Int → Int → Prop} (h : FS F S) (k : FS G S') (e : ∀ x y, S x y ↔ S' x y) : F = G := form_eq h.form k.form (fun x y => by rw [h.cells, k.cells, e])
theorem FS.ok {F : List Rc} {S : Int → Int → Prop} (h : FS F S) : ∀ r ∈ F, ROk r := form_ok h.form
theorem fs_or {P Q : List Rc} {S T : Int → Int → Prop} (h : FS P S) (k : FS Q T) : FS (formO or P Q) (fun x y => S x y ∨ T x y) := by
  obtain ⟨f1, f2⟩ := formO_is (op := or) rfl h.ok k.ok
  exact ⟨f1, fun x y => by rw [f2, Bool.or_eq_true, hasB_iff, hasB_iff, h.cells, k.cells]⟩
theorem fs_and {P Q : List Rc} {S T : Int → Int → Prop} (h : FS P S) (k : FS Q T) : FS (formO and P Q) (fun x y => S x y ∧ T x y) := by
  obtain ⟨f1, f2⟩ := formO_is (op := and) rfl h.ok k.ok
  exact ⟨f1, fun x y => by rw [f2, Bool.and_eq_true, hasB_iff, hasB_iff, h.cells, k.cells]⟩
theorem fs_not {P Q : List Rc} {S T : Int → Int → Prop} (h : FS P S) (k : FS Q T) : FS (formO andnot P Q) (fun x y => S x y ∧ ¬ T x y) := by
  obtain ⟨f1, f2⟩ := formO_is (op := andnot) rfl h.ok k.ok
  refine ⟨f1, fun x y => ?_⟩
  rw [f2]
  unfold andnot
  rw [Bool.and_eq_true, hasB_iff, h.cells, Bool.not_eq_true', ← Bool.not_eq_true, hasB_iff, k.cells]
theorem fs_l {l : List Rc} (h : ∀ r ∈ l, ROk r) : FS (formL l) (HasL l) := ⟨(formL_is h).1, (formL_is h).2⟩
theorem op_cap {op : Bool → Bool → Bool} {P Q : List Rc} (hp : RegP P) (hq : RegP Q) : opR op P Q = capR (formO op P Q) := if_pos ⟨hp, hq⟩
theorem cap_le {F : List Rc} (h : F.length ≤ 200) : capR F = (F, 0) := if_pos h
end Go.Proofs.Ytkjblmfmaenllaa
