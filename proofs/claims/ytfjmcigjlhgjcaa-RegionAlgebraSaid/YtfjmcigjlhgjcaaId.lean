/-
  RegionAlgebra: its calls' contracts, and the walk for every input.
-/
import Derived.Test.YtfjmcigjlhgjcaaIc
set_option linter.unusedVariables false
set_option maxRecDepth 100000
namespace Go.Proofs.Ytfjmcigjlhgjcaa
open Go.RowKit

theorem raw_or {a b : List Rc} (ha : ∀ r ∈ a, ROk r) (hb : ∀ r ∈ b, ROk r) : FS (formO or a b) (fun x y => HasL a x y ∨ HasL b x y) := by
  obtain ⟨f1, f2⟩ := formO_is (op := or) rfl ha hb
  exact ⟨f1, fun x y => by rw [f2, Bool.or_eq_true, hasB_iff, hasB_iff]⟩
theorem raw_and {a b : List Rc} (ha : ∀ r ∈ a, ROk r) (hb : ∀ r ∈ b, ROk r) : FS (formO and a b) (fun x y => HasL a x y ∧ HasL b x y) := by
  obtain ⟨f1, f2⟩ := formO_is (op := and) rfl ha hb
  exact ⟨f1, fun x y => by rw [f2, Bool.and_eq_true, hasB_iff, hasB_iff]⟩
theorem raw_not {a b : List Rc} (ha : ∀ r ∈ a, ROk r) (hb : ∀ r ∈ b, ROk r) : FS (formO andnot a b) (fun x y => HasL a x y ∧ ¬ HasL b x y) := by
  obtain ⟨f1, f2⟩ := formO_is (op := andnot) rfl ha hb
  refine ⟨f1, fun x y => ?_⟩
  rw [f2]
  unfold andnot
  rw [Bool.and_eq_true, hasB_iff, Bool.not_eq_true', ← Bool.not_eq_true, hasB_iff]
theorem fs_nil : FS [] (fun _ _ => False) := ⟨⟨[], trivial, rfl⟩, fun x y => ⟨fun ⟨r, hr, _⟩ => (by cases hr), fun h => h.elim⟩⟩
theorem con_of {l : List Rc} {R : List Rc} {er : Int} (he : ofR l = (R, er)) (hR : R.length ≤ 1099511627776) (w' : World) (A1 : Option Addr) (c1 : Nat) (h : RIn w' A1 c1 l) : Calls Try.prog 10 #[.slice A1 l.length c1] w' (RR R R.length er w') := by
  have := gof_any A1 c1 l w' h.row h.len
  rw [he] at this
  exact this.mono fun e w2 h2 => h2.rr hR
theorem con_union {P Q R : List Rc} {er : Int} (he : opR or P Q = (R, er)) (hR : R.length ≤ 1099511627776) (w' : World) (A1 : Option Addr) (c1 : Nat) (A2 : Option Addr) (c2 : Nat) (h : RIn w' A1 c1 P) (h2 : RIn w' A2 c2 Q) : Calls Try.prog 15 #[.slice A1 P.length c1, .slice A2 Q.length c2] w' (RR R R.length er w') := by
  have := gunion_any A1 c1 A2 c2 P Q w' h h2
  rw [he] at this
  exact this.mono fun e w2 h2 => h2.rr hR
theorem con_common {P Q R : List Rc} {er : Int} (he : opR and P Q = (R, er)) (hR : R.length ≤ 1099511627776) (w' : World) (A1 : Option Addr) (c1 : Nat) (A2 : Option Addr) (c2 : Nat) (h : RIn w' A1 c1 P) (h2 : RIn w' A2 c2 Q) : Calls Try.prog 16 #[.slice A1 P.length c1, .slice A2 Q.length c2] w' (RR R R.length er w') := by
  have := gcommon_any A1 c1 A2 c2 P Q w' h h2
  rw [he] at this
  exact this.mono fun e w2 h2 => h2.rr hR
theorem con_minus {P Q R : List Rc} {er : Int} (he : opR andnot P Q = (R, er)) (hR : R.length ≤ 1099511627776) (w' : World) (A1 : Option Addr) (c1 : Nat) (A2 : Option Addr) (c2 : Nat) (h : RIn w' A1 c1 P) (h2 : RIn w' A2 c2 Q) : Calls Try.prog 17 #[.slice A1 P.length c1, .slice A2 Q.length c2] w' (RR R R.length er w') := by
  have := gminus_any A1 c1 A2 c2 P Q w' h h2
  rw [he] at this
  exact this.mono fun e w2 h2 => h2.rr hR
theorem con_same (P : List Rc) (hP : P.length ≤ 1099511627776) (w' : World) (A1 : Option Addr) (c1 : Nat) (A2 : Option Addr) (c2 : Nat) (h : RIn w' A1 c1 P) (h2 : RIn w' A2 c2 P) : Calls Try.prog 12 #[.slice A1 P.length c1, .slice A2 P.length c2] w' (BlIs true w') := by
  have := vsame_any A1 c1 A2 c2 P P w' h.row h2.row hP hP
  rw [decide_eq_true rfl] at this; exact this
theorem con_area {P : List Rc} (hP : RegP P) (w' : World) (A1 : Option Addr) (c1 : Nat) (h : RIn w' A1 c1 P) : Calls Try.prog 21 #[.slice A1 P.length c1] w' (InIs (areaL P) w') := garea_yes A1 c1 P w' h hP
theorem area_room {P : List Rc} (h : RegP P) : 0 ≤ areaL P ∧ areaL P ≤ 1000000000000000 := by
  have h1 := areaL_bd P
  have h2 := h.2
  refine ⟨h1.1, Int.le_trans h1.2 ?_⟩
  omega
theorem capR_len (F : List Rc) : (capR F).1.length ≤ 1099511627776 := by unfold capR; split <;> simp <;> omega
theorem sq_le {m n k : Nat} (h : m ≤ n * n) (hn : n ≤ k) : m ≤ k * k := Nat.le_trans h (Nat.mul_le_mul hn hn)
set_option maxHeartbeats 4000000 in
theorem algebra_ok (Aa Ab Ac : Option Addr) (ca cb cc : Nat) (a b c : List Rc) (w : World) (ha : RIn w Aa ca a) (hb : RIn w Ab cb b) (hc : RIn w Ac cc c) (HAN : Aa = none → ca = 0) (HBN : Ab = none → cb = 0) (HCN : Ac = none → cc = 0)
    (ma : a.length ≤ 4) (mb : b.length ≤ 4) (mc : c.length ≤ 4) (oa : ∀ r ∈ a, ROk r) (ob : ∀ r ∈ b, ROk r) (oc : ∀ r ∈ c, ROk r) :
    Calls Try.prog 5 #[.slice Aa a.length ca, .slice Ab b.length cb, .slice Ac c.length cc] w (BlIs true w) := by
  have fx := fs_l oa; have fy := fs_l ob; have fz := fs_l oc
  have oabc : ∀ r ∈ a ++ b ++ c, ROk r := fun r hr => by
    rcases List.mem_append.1 hr with h | h
    · rcases List.mem_append.1 h with h | h
      · exact oa r h
      · exact ob r h
    · exact oc r h
  have has3 : ∀ x y, HasL (a ++ b ++ c) x y ↔ (HasL a x y ∨ HasL b x y) ∨ HasL c x y := fun x y => by
    unfold HasL
    simp only [List.mem_append, or_and_right, exists_or]
  have fal := fs_l oabc
  have lx : (formL a).length ≤ 16 := sq_le (k := 4) (form_sq oa) ma
  have ly : (formL b).length ≤ 16 := sq_le (k := 4) (form_sq ob) mb
  have lz : (formL c).length ≤ 16 := sq_le (k := 4) (form_sq oc) mc
  have lal : (formL (a ++ b ++ c)).length ≤ 144 := sq_le (k := 12) (form_sq oabc) (by simp; omega)
  have rx : RegP (formL a) := ⟨fx.form, by omega⟩
  have ry : RegP (formL b) := ⟨fy.form, by omega⟩
  have rz : RegP (formL c) := ⟨fz.form, by omega⟩
  have fxy := fs_or fx fy; have fyz := fs_or fy fz; have fin := fs_and fx fy; have fxz := fs_and fx fz; have fle := fs_not fx fy
  have lxy : (formO or (formL a) (formL b)).length ≤ 64 := by rw [fxy.eq (raw_or oa ob) (fun x y => Iff.rfl)]; exact sq_le (k := 8) (formO_sq or oa ob) (by omega)
  have lyz : (formO or (formL b) (formL c)).length ≤ 64 := by rw [fyz.eq (raw_or ob oc) (fun x y => Iff.rfl)]; exact sq_le (k := 8) (formO_sq or ob oc) (by omega)
  have lin : (formO and (formL a) (formL b)).length ≤ 64 := by rw [fin.eq (raw_and oa ob) (fun x y => Iff.rfl)]; exact sq_le (k := 8) (formO_sq and oa ob) (by omega)
  have lxz : (formO and (formL a) (formL c)).length ≤ 64 := by rw [fxz.eq (raw_and oa oc) (fun x y => Iff.rfl)]; exact sq_le (k := 8) (formO_sq and oa oc) (by omega)
  have lle : (formO andnot (formL a) (formL b)).length ≤ 64 := by rw [fle.eq (raw_not oa ob) (fun x y => Iff.rfl)]; exact sq_le (k := 8) (formO_sq andnot oa ob) (by omega)
  have rxy : RegP (formO or (formL a) (formL b)) := ⟨fxy.form, by omega⟩
  have ryz : RegP (formO or (formL b) (formL c)) := ⟨fyz.form, by omega⟩
  have rin : RegP (formO and (formL a) (formL b)) := ⟨fin.form, by omega⟩
  have rxz : RegP (formO and (formL a) (formL c)) := ⟨fxz.form, by omega⟩
  have rle : RegP (formO andnot (formL a) (formL b)) := ⟨fle.form, by omega⟩
  have ex : ∀ l : List Rc, l.length ≤ 400 → (∀ r ∈ l, ROk r) → (formL l).length ≤ 200 → ofR l = (formL l, 0) := fun l h1 h2 h3 => by
    unfold ofR; rw [if_pos h2, if_pos h1, cap_le h3]
  have qyx : formO or (formL b) (formL a) = formO or (formL a) (formL b) := (fs_or fy fx).eq fxy (fun x y => Or.comm)
  have qone : formO or (formO or (formL a) (formL b)) (formL c) = formL (a ++ b ++ c) := (fs_or fxy fz).eq fal (fun x y => (has3 x y).symm)
  have qtwo : formO or (formL a) (formO or (formL b) (formL c)) = formL (a ++ b ++ c) := (fs_or fx fyz).eq fal (fun x y => by rw [has3 x y]; exact or_assoc.symm)
  have qback : formO and (formL b) (formL a) = formO and (formL a) (formL b) := (fs_and fy fx).eq fin (fun x y => And.comm)
  have qfour : formO or (formO and (formL a) (formL b)) (formO and (formL a) (formL c)) = formO and (formL a) (formO or (formL b) (formL c)) := (fs_or fin fxz).eq (fs_and fx fyz) (fun x y => (and_or_left).symm)
  have qrest : formO and (formO andnot (formL a) (formL b)) (formL b) = [] := (fs_and fle fy).eq fs_nil (fun x y => ⟨fun h => h.1.2 h.2, fun h => h.elim⟩)
  have qwhole : formO or (formO andnot (formL a) (formL b)) (formO and (formL a) (formL b)) = formL a := (fs_or fle fin).eq fx (fun x y => ⟨fun h => by rcases h with h | h; exact h.1; exact h.1, fun h => by
    by_cases k : HasL b x y
    · exact Or.inr ⟨h, k⟩
    · exact Or.inl ⟨h, k⟩⟩)
  have qsix : formO andnot (formO andnot (formL a) (formL b)) (formL c) = formO andnot (formL a) (formO or (formL b) (formL c)) := (fs_not fle fz).eq (fs_not fx fyz) (fun x y => ⟨fun h => ⟨h.1.1, fun k => by rcases k with k | k; exact h.1.2 k; exact h.2 k⟩, fun h => ⟨⟨h.1, fun k => h.2 (Or.inl k)⟩, fun k => h.2 (Or.inr k)⟩⟩)
  have areas : areaL (formO or (formL a) (formL b)) + areaL (formO and (formL a) (formL b)) = areaL (formL a) + areaL (formL b) := area_adds fx.form fy.form fxy.form fin.form (fun x y => by rw [fxy.cells, fx.cells, fy.cells]) (fun x y => by rw [fin.cells, fx.cells, fy.cells])
  refine algebra_core Aa Ab Ac ca cb cc _ _ _ _ _ _ _ _ _ _ _ _ _ _ a b c (formL a) (formL b) (formL c) (formO or (formL a) (formL b)) (formO or (formL b) (formL c)) (formL (a ++ b ++ c)) (formO and (formL a) (formL b)) (formO and (formL a) (formL c)) (capR (formO and (formL a) (formO or (formL b) (formL c)))).1 (formO andnot (formL a) (formL b)) (capR (formO andnot (formL a) (formO or (formL b) (formL c)))).1
    _ _ _ _ (capR (formO and (formL a) (formO or (formL b) (formL c)))).2 (capR (formO andnot (formL a) (formO or (formL b) (formL c)))).2 w ha hb hc (Lib.hid rfl) (Lib.hid rfl) (Lib.hid rfl) (Lib.hid HAN) (Lib.hid HBN) (Lib.hid HCN) ma mb mc (area_room rxy) (area_room rin) (area_room rx) (area_room ry) (by simp [areas])
    (Lib.hid (con_of (ex a (by omega) oa (by omega)) (by omega))) (Lib.hid (con_of (ex b (by omega) ob (by omega)) (by omega))) (Lib.hid (con_of (ex c (by omega) oc (by omega)) (by omega)))
    (Lib.hid (con_union (by rw [op_cap rx ry, cap_le (by omega)]) (by omega))) (Lib.hid (con_union (by rw [op_cap ry rx, qyx, cap_le (by omega)]) (by omega))) (Lib.hid (con_union (by rw [op_cap ry rz, cap_le (by omega)]) (by omega)))
    (Lib.hid (con_union (by rw [op_cap rxy rz, qone, cap_le (by omega)]) (by omega))) (Lib.hid (con_union (by rw [op_cap rx ryz, qtwo, cap_le (by omega)]) (by omega)))
    (Lib.hid (con_common (by rw [op_cap rx ry, cap_le (by omega)]) (by omega))) (Lib.hid (con_common (by rw [op_cap ry rx, qback, cap_le (by omega)]) (by omega)))
    (Lib.hid (con_same _ (by omega))) (Lib.hid (con_same _ (by omega))) (Lib.hid (con_same _ (by omega)))
    (Lib.hid (con_area rxy)) (Lib.hid (con_area rin)) (Lib.hid (con_area rx)) (Lib.hid (con_area ry))
    (Lib.hid (con_common (by rw [op_cap rx rz, cap_le (by omega)]) (by omega))) (Lib.hid (con_common (by rw [op_cap rx ryz]) (capR_len _))) (Lib.hid (con_union (by rw [op_cap rin rxz, qfour]) (capR_len _)))
    (Lib.hid (con_minus (by rw [op_cap rx ry, cap_le (by omega)]) (by omega))) (Lib.hid (con_common (by rw [op_cap rle ry, qrest]; rfl) (by simp))) (Lib.hid (con_union (by rw [op_cap rle rin, qwhole, cap_le (by omega)]) (by omega)))
    (Lib.hid (con_minus (by rw [op_cap rx ryz]) (capR_len _))) (Lib.hid (con_minus (by rw [op_cap rle rz, qsix]) (capR_len _)))
    (Lib.hid (con_same _ (capR_len _))) (Lib.hid (con_same _ (by omega))) (Lib.hid (con_same _ (capR_len _)))
    (Lib.hid (fun w' B v ho => ?_)) (Lib.hid (small_any w))
  have ho2 : w'.ownsRow B 39 4 v (a ++ b ++ c).length (rcells (a ++ b ++ c)) := by
    have e1 : (a ++ b ++ c).length = a.length + b.length + c.length := by rw [List.length_append, List.length_append]
    have e2 : rcells (a ++ b ++ c) = rcells a ++ (rcells b ++ rcells c) := by rw [rcells_append, rcells_append, List.append_assoc]
    rw [e1, e2]; exact ho
  obtain ⟨A, cap, rfl, h1, h2, h3, _⟩ := own_rects ho2
  exact con_of (ex _ (by simp; omega) oabc (by omega)) (by omega) w' A cap ⟨h1, by simp; omega, h2, h3⟩
end Go.Proofs.Ytfjmcigjlhgjcaa
