/-
  Contracts of the reference of layer 6 (2): what combine's contracts say.
  Contracts of the program's layer 6 (4): slices of rectangles that the call made; the rows that column works on.
  Plain mathematics of regions (layer 6): how many rectangles the form of n rectangles has at most: n * n. No program in this text.
  Lots (layer 13): plain mathematics: lots, lands, and what an operation makes of a land. No program in this text.
  Lots (layer 13): a split joined again; lands are determined by their lots. No program in this text.
  Plain mathematics of offsets (layer 8), 1: rows as spans; what two lists of spans have in common; spans made smaller. No program in this text.
  Plain mathematics of offsets (layer 8), 2: the slabs in a window, the rows around which all cells are there, the numbers at which they change, and the form that they grow into. No program in this text.
  Plain mathematics of offsets (layer 8), 3: what grown and shrunk regions hold, the gap of two regions, and what the statements say of them. No program in this text.
  Plain mathematics of offsets (layer 8), 4: the ascending list of the changes; the first slab of a list; the loop's lists of rectangles. No program in this text.
-/
import Derived.Test.YtngddecpfhlilaaGreatC00
import Derived.BigQuiet
import Derived.Laws.AppendOwn
import Derived.Test.YtngddecpfhlilaaGreatC04
import Derived.Lib.SlicesCompact
set_option linter.unusedVariables false
set_option maxRecDepth 100000
namespace Go.Proofs.YtngddecpfhlilaaGreat
open Go.RowKit
theorem infoInt : (Tryz.prog.info? 3).map (fun i => (i.zero, i.size, i.bytes)) = some (some (.int .i64 0), 1, 8) := by kernel_rfl
structure OwnI (v : Value) (l : List Int) (w wr : World) : Prop where
 own : wr.ownsRow w.heap.size 3 1 v l.length (icells l)
 bel : Below w.heap.size w wr
theorem OwnI.drewN {v : Value} {l : List Int} {w wr : World} (h : OwnI v l w wr) (n : Nat) : OwnI v l w (wr.drewN n) := by
 refine ⟨?_, below_drewN h.bel n⟩
 obtain ⟨h1, h2⟩ := h.own
 exact ⟨h1, h2⟩
theorem icells_snoc (l : List Int) (x : Int) : icells (l ++ [x]) = icells l ++ [.int .i64 x] := by simp [icells]
end Go.Proofs.YtngddecpfhlilaaGreat
namespace Go.Proofs.YtngddecpfhlilaaGreat
open Go.RowKit
theorem RRow.some {w : World} {b o : Nat} {l : List Rc} (h : RRow w (Option.some ⟨b, o, none⟩) l) : 0 < l.length → b < w.heap.size ∧ ∀ j (h : j < l.length), w.cell? ⟨b, o + j * 4, none⟩ = some (.int .i64 l[j].X0) ∧ w.cell? ⟨b, o + j * 4 + 1, none⟩ = some (.int .i64 l[j].Y0) ∧ w.cell? ⟨b, o + j * 4 + 2, none⟩ = some (.int .i64 l[j].X1) ∧ w.cell? ⟨b, o + j * 4 + 3, none⟩ = some (.int .i64 l[j].Y1) := fun h0 => by
 obtain ⟨b', o', e, hb, hc⟩ := h h0
 simp only [Option.some.injEq, Addr.mk.injEq, and_true] at e
 obtain ⟨rfl, rfl⟩ := e
 exact ⟨hb, hc⟩
theorem RRow.take {w : World} {A : Option Addr} {l : List Rc} (h : RRow w A l) (n : Nat) : RRow w A (l.take n) := fun h0 => by
 rw [List.length_take] at h0
 obtain ⟨b, o, rfl, hb, hc⟩ := h (by omega)
 exact ⟨b, o, rfl, hb, fun j hj => by rw [List.length_take] at hj; simpa using hc j (by omega)⟩
theorem RRow.drop {w : World} {b o : Nat} {l : List Rc} (h : RRow w (Option.some ⟨b, o, none⟩) l) (n : Nat) : RRow w (Option.some ⟨b, o + n * 4, none⟩) (l.drop n) := fun h0 => by
 rw [List.length_drop] at h0
 obtain ⟨hb, hc⟩ := h.some (by omega)
 refine ⟨b, o + n * 4, rfl, hb, fun j hj => ?_⟩
 rw [List.length_drop] at hj
 have := hc (n + j) (by omega)
 rw [List.getElem_drop, show o + n * 4 + j * 4 = o + (n + j) * 4 by omega]
 exact this
theorem RRow.nil (w : World) (A : Option Addr) : RRow w A [] := fun h => absurd h (by simp)
theorem infoRect : (Tryz.prog.info? 68).map (fun i => (i.zero, i.size, i.bytes)) = some (some (.agg #[.int .i64 0, .int .i64 0, .int .i64 0, .int .i64 0]), 4, 32) := by kernel_rfl
theorem infoEdge : (Tryz.prog.info? 130).map (fun i => (i.zero, i.size, i.bytes)) = some (some (.agg #[.int .i64 0, .int .i64 0, .int .i64 0, .int .i64 0, .int .i64 0]), 5, 40) := by kernel_rfl
theorem own_stays {w w' : World} {B e size n : Nat} {v : Value} {xs : List Value} (h : w.ownsRow B e size v n xs) (hk : ∀ g, v.ownBlock = some g → w'.heap[g]? = w.heap[g]?) : w'.ownsRow B e size v n xs := by
 obtain ⟨h1, h2⟩ := h
 refine ⟨h1, ?_⟩
 rcases h2 with ⟨rfl, h3⟩ | ⟨g, cap, cur, rfl, hB, hg, h4⟩
 ·exact Or.inl ⟨rfl, h3⟩
 ·exact Or.inr ⟨g, cap, cur, rfl, hB, by rw [hk g rfl]; exact hg, h4⟩
theorem own_go {w w' : World} {B e size n : Nat} {v : Value} {xs : List Value} (h : w.ownsRow B e size v n xs) (hb : Below w.heap.size w w') : w'.ownsRow B e size v n xs :=
 own_stays h (fun g hg => hb.block g (h.lt g hg).2)
theorem own_base {w : World} {B B' e size n : Nat} {v : Value} {xs : List Value} (h : w.ownsRow B e size v n xs) (hB : B' ≤ B) : w.ownsRow B' e size v n xs := by
 obtain ⟨h1, h2⟩ := h
 refine ⟨h1, ?_⟩
 rcases h2 with h2 | ⟨g, cap, cur, rfl, hB2, h4⟩
 ·exact Or.inl h2
 ·exact Or.inr ⟨g, cap, cur, rfl, Nat.le_trans hB hB2, h4⟩
theorem set_other (wr : World) (a : Addr) (x : Value) (g : Nat) (h : g ≠ a.block) : (wr.setCell a x).heap[g]? = wr.heap[g]? := by
 simp [World.setCell, Array.getElem?_modify]; intro e; exact absurd e.symm h
def rcells (l : List Rc) : List Value := l.flatMap fun r => [.int .i64 r.X0, .int .i64 r.Y0, .int .i64 r.X1, .int .i64 r.Y1]
theorem rcells_len (l : List Rc) : (rcells l).length = l.length * 4 := by
 induction l with
 | nil => rfl
 | cons r l ih => show (_ :: _ :: _ :: _ :: rcells l).length = _; simp [ih]; omega
theorem rcells_append (l m : List Rc) : rcells (l ++ m) = rcells l ++ rcells m := by simp [rcells]
theorem rcells_at : ∀ (l : List Rc) (j : Nat) (h : j < l.length), (rcells l)[j * 4]? = some (.int .i64 l[j].X0) ∧ (rcells l)[j * 4 + 1]? = some (.int .i64 l[j].Y0) ∧ (rcells l)[j * 4 + 2]? = some (.int .i64 l[j].X1) ∧ (rcells l)[j * 4 + 3]? = some (.int .i64 l[j].Y1) := by
 intro l
 induction l with
 | nil => intro j h; simp at h
 | cons r l ih =>
  intro j h
  cases j with
  | zero => exact ⟨rfl, rfl, rfl, rfl⟩
  | succ j =>
   have := ih j (by simpa using h)
   rw [show (j + 1) * 4 = j * 4 + 1 + 1 + 1 + 1 by omega]
   exact this
theorem rcells_one : ∀ (l : List Rc), ∀ u ∈ rcells l, u.oneCell' = true := by
 intro l u hu
 obtain ⟨r, _, hu⟩ := List.mem_flatMap.1 hu
 simp at hu
 rcases hu with rfl | rfl | rfl | rfl <;> rfl
theorem rcells_set : ∀ (l : List Rc) (j : Nat) (h : j < l.length) (x : Int), (rcells l).set (j * 4 + 2) (.int .i64 x) = rcells (l.set j ⟨l[j].X0, l[j].Y0, x, l[j].Y1⟩) ∧ (rcells l).set (j * 4 + 3) (.int .i64 x) = rcells (l.set j ⟨l[j].X0, l[j].Y0, l[j].X1, x⟩) := by
 intro l
 induction l with
 | nil => intro j h; simp at h
 | cons r l ih =>
  intro j h x
  cases j with
  | zero => exact ⟨rfl, rfl⟩
  | succ j =>
   have := ih j (by simpa using h) x
   rw [show (j + 1) * 4 + 2 = (j * 4 + 2) + 1 + 1 + 1 + 1 by omega, show (j + 1) * 4 + 3 = (j * 4 + 3) + 1 + 1 + 1 + 1 by omega]
   show _ :: _ :: _ :: _ :: (rcells l).set _ _ = _ ∧ _ :: _ :: _ :: _ :: (rcells l).set _ _ = _
   rw [this.1, this.2]
   exact ⟨rfl, rfl⟩
theorem own_rects {w : World} {B : Nat} {v : Value} {l : List Rc} (h : w.ownsRow B 68 4 v l.length (rcells l)) :
  ∃ A cap, v = .slice A l.length cap ∧ RRow w A l ∧ l.length ≤ cap ∧ cap ≤ 9223372036854775807 ∧ (0 < l.length → ∃ g, A = some ⟨g, 0, none⟩ ∧ B ≤ g ∧ g < w.heap.size) ∧ (A = none → cap = 0) := by
 have hh := h
 obtain ⟨h1, h2⟩ := h
 rcases h2 with ⟨rfl, h3⟩ | ⟨g, cap, cur, rfl, hB, hg, h4⟩
 ·rw [h3]
  exact ⟨none, 0, rfl, fun h => by omega, Nat.le_refl _, by omega, fun h => absurd h (Nat.lt_irrefl _), fun _ => rfl⟩
 ·have hlt : g < w.heap.size := by
   rcases Nat.lt_or_ge g w.heap.size with hlt | hge
   ·exact hlt
   ·rw [Array.getElem?_eq_none hge] at hg; cases hg
  refine ⟨_, cap, rfl, fun h0 => ⟨g, 0, rfl, hlt, fun j hj => ?_⟩, ?_, ?_, fun _ => ⟨g, rfl, hB, hlt⟩, fun h => by cases h⟩
  ·have c := fun i (hi : i < l.length * 4) => World.ownsRow.cellAt hh i hi
   obtain ⟨e0, e1, e2, e3⟩ := rcells_at l j hj
   rw [Nat.zero_add]
   exact ⟨(c _ (by omega)).trans e0, (c _ (by omega)).trans e1, (c _ (by omega)).trans e2, (c _ (by omega)).trans e3⟩
  ·exact h4.1
  ·have := h4.2.1; unfold maxLen at this; omega
end Go.Proofs.YtngddecpfhlilaaGreat
namespace Go.Proofs.YtngddecpfhlilaaGreat
end Go.Proofs.YtngddecpfhlilaaGreat
namespace Go.Proofs.YtngddecpfhlilaaGreat
structure Lt where
 id : Int
 ow : Int
 ar : List Rc
 fr : List Int
def AscL : List Lt → Prop
 | [] => True
 | t :: l => (∀ u ∈ l, t.id < u.id) ∧ AscL l
def insL (t : Lt) : List Lt → List Lt
 | [] => [t]
 | u :: l => if u.id ≤ t.id then u :: insL t l else t :: u :: l
theorem mem_insL (t u : Lt) : ∀ l, u ∈ insL t l ↔ u = t ∨ u ∈ l
 | [] => by simp [insL]
 | v :: l => by
  unfold insL
  split
  ·rw [List.mem_cons, mem_insL t u l, List.mem_cons]
   constructor
   ·rintro (h | h | h)
    ·exact .inr (.inl h)
    ·exact .inl h
    ·exact .inr (.inr h)
   ·rintro (h | h | h)
    ·exact .inr (.inl h)
    ·exact .inl h
    ·exact .inr (.inr h)
  ·simp
theorem len_insL (t : Lt) : ∀ l, (insL t l).length = l.length + 1
 | [] => rfl
 | v :: l => by
  unfold insL
  split
  ·simp [len_insL t l]
  ·simp
theorem asc_insL (t : Lt) : ∀ {l : List Lt}, AscL l → (∀ u ∈ l, u.id ≠ t.id) → AscL (insL t l)
 | [], _, _ => ⟨(fun u hu => nomatch hu), trivial⟩
 | v :: l, h, hn => by
  unfold insL
  have hv := hn v (by simp)
  split
  ·rename_i hle
   refine ⟨fun u hu => ?_, asc_insL t h.2 (fun u hu => hn u (by simp [hu]))⟩
   rcases (mem_insL t u l).1 hu with e | hu
   ·rw [e]; omega
   ·exact h.1 u hu
  ·rename_i hle
   refine ⟨fun u hu => ?_, h⟩
   rcases List.mem_cons.1 hu with e | hu
   ·rw [e]; omega
   ·have := h.1 u hu; omega
theorem AscL.one : ∀ {l : List Lt}, AscL l → ∀ {t u : Lt}, t ∈ l → u ∈ l → t.id = u.id → t = u
 | [], _, t, u, ht, _, _ => nomatch ht
 | v :: l, h, t, u, ht, hu, e => by
  rcases List.mem_cons.1 ht with e1 | ht <;> rcases List.mem_cons.1 hu with e2 | hu
  ·rw [e1, e2]
  ·have := h.1 u hu; rw [e1] at e; omega
  ·have := h.1 t ht; rw [e2] at e; omega
  ·exact AscL.one h.2 ht hu e
def wthL (o : List Int) (l : List Lt) : List Lt := l.filter fun t => decide (t.id ∉ o)
theorem mem_wthL {o : List Int} {l : List Lt} {t : Lt} : t ∈ wthL o l ↔ t ∈ l ∧ t.id ∉ o := by unfold wthL; simp
theorem asc_filter (p : Lt → Bool) : ∀ {l : List Lt}, AscL l → AscL (l.filter p)
 | [], _ => trivial
 | v :: l, h => by
  rw [List.filter_cons]
  split
  ·exact ⟨fun u hu => h.1 u (List.mem_filter.1 hu).1, asc_filter p h.2⟩
  ·exact asc_filter p h.2
def chL (o : List Int) (n : List Lt) (l : List Lt) : List Lt := n.foldl (fun a t => insL t a) (wthL o l)
theorem mem_fold (u : Lt) : ∀ (n a : List Lt), u ∈ n.foldl (fun a t => insL t a) a ↔ u ∈ n ∨ u ∈ a
 | [], a => by simp
 | t :: n, a => by
  rw [List.foldl_cons, mem_fold u n, mem_insL, List.mem_cons]
  constructor
  ·rintro (h | h | h)
   ·exact .inl (.inr h)
   ·exact .inl (.inl h)
   ·exact .inr h
  ·rintro ((h | h) | h)
   ·exact .inr (.inl h)
   ·exact .inl h
   ·exact .inr (.inr h)
theorem mem_chL {o : List Int} {n l : List Lt} {u : Lt} : u ∈ chL o n l ↔ u ∈ n ∨ u ∈ l ∧ u.id ∉ o := by
 unfold chL; rw [mem_fold, mem_wthL]
theorem len_fold : ∀ (n a : List Lt), (n.foldl (fun a t => insL t a) a).length = a.length + n.length
 | [], a => rfl
 | t :: n, a => by rw [List.foldl_cons, len_fold n, len_insL, List.length_cons]; omega
def DifL : List Lt → Prop
 | [] => True
 | t :: l => (∀ u ∈ l, t.id ≠ u.id) ∧ DifL l
theorem asc_fold : ∀ (n a : List Lt), AscL a → DifL n → (∀ t ∈ n, ∀ u ∈ a, u.id ≠ t.id) → AscL (n.foldl (fun a t => insL t a) a)
 | [], a, h, _, _ => h
 | t :: n, a, h, hd, hn => by
  rw [List.foldl_cons]
  refine asc_fold n _ (asc_insL t h (hn t (by simp))) hd.2 (fun v hv u hu => ?_)
  rcases (mem_insL t u a).1 hu with e | hu
  ·rw [e]; exact hd.1 v hv
  ·exact hn v (by simp [hv]) u hu
theorem asc_chL {o : List Int} {n l : List Lt} (h : AscL l) (hd : DifL n) (hn : ∀ t ∈ n, ∀ u ∈ l, u.id ∉ o → u.id ≠ t.id) : AscL (chL o n l) :=
 asc_fold n _ (asc_filter _ h) hd (fun t ht u hu => hn t ht u (mem_wthL.1 hu).1 (mem_wthL.1 hu).2)
def numOk (n : Int) : Prop := 1 ≤ n ∧ n ≤ 1073741824
structure LtOk (one : List Rc → Bool) (t : Lt) : Prop where
 fr : Asc t.fr ∧ ∀ n ∈ t.fr, numOk n
 id : numOk t.id
 ow : 0 ≤ t.ow ∧ t.ow ≤ 1073741824
 one : one t.ar = true
def Ap13 (a b : List Rc) : Prop := ∀ x y, ¬ (HasL a x y ∧ HasL b x y)
theorem Ap13.symm {a b : List Rc} (h : Ap13 a b) : Ap13 b a := fun x y c => h x y ⟨c.2, c.1⟩
structure Land (one : List Rc → Bool) (l : List Lt) : Prop where
 len : l.length ≤ 20000
 ok : ∀ t ∈ l, LtOk one t
 asc : AscL l
 fr : ∀ t ∈ l, ∀ u ∈ l, t.id ∉ u.fr
 off : ∀ t ∈ l, ∀ u ∈ l, t.id ≠ u.id → Ap13 t.ar u.ar
theorem land_nil (one : List Rc → Bool) : Land one [] := ⟨by simp, (fun t ht => nomatch ht), trivial, (fun t ht => nomatch ht), (fun t ht => nomatch ht)⟩
def Taken (l : List Lt) (n : Int) : Prop := ∃ u ∈ l, u.id = n ∨ n ∈ u.fr
structure LChg (one : List Rc → Bool) (o : List Int) (n l : List Lt) : Prop where
 len : (chL o n l).length ≤ 20000
 ok : ∀ t ∈ n, LtOk one t
 dif : DifL n
 new : ∀ t ∈ n, ∀ u ∈ l, u.id ∉ o → u.id ≠ t.id ∧ t.id ∉ u.fr ∧ u.id ∉ t.fr
 own : ∀ t ∈ n, ∀ u ∈ n, t.id ∉ u.fr
 off : ∀ t ∈ n, ∀ u ∈ l, u.id ∉ o → Ap13 t.ar u.ar
 offn : ∀ t ∈ n, ∀ u ∈ n, t.id ≠ u.id → Ap13 t.ar u.ar
theorem Land.chg {one : List Rc → Bool} {o : List Int} {n l : List Lt} (h : Land one l) (c : LChg one o n l) : Land one (chL o n l) := by
 refine ⟨c.len, fun t ht => ?_, asc_chL h.asc c.dif (fun t ht u hu hn => (c.new t ht u hu hn).1), fun t ht u hu => ?_, fun t ht u hu hne => ?_⟩
 ·rcases mem_chL.1 ht with ht | ht
  ·exact c.ok t ht
  ·exact h.ok t ht.1
 ·rcases mem_chL.1 ht with ht | ht <;> rcases mem_chL.1 hu with hu | hu
  ·exact c.own t ht u hu
  ·exact (c.new t ht u hu.1 hu.2).2.1
  ·exact (c.new u hu t ht.1 ht.2).2.2
  ·exact h.fr t ht.1 u hu.1
 ·rcases mem_chL.1 ht with ht | ht <;> rcases mem_chL.1 hu with hu | hu
  ·exact c.offn t ht u hu hne
  ·exact c.off t ht u hu.1 hu.2
  ·exact (c.off u hu t ht.1 ht.2).symm
  ·exact h.off t ht.1 u hu.1 hne
theorem Land.at_one {one : List Rc → Bool} {l : List Lt} (h : Land one l) {t u : Lt} (ht : t ∈ l) (hu : u ∈ l) {x y : Int} (h1 : HasL t.ar x y) (h2 : HasL u.ar x y) : t = u := by
 by_cases e : t.id = u.id
 ·exact h.asc.one ht hu e
 ·exact absurd ⟨h1, h2⟩ (h.off t ht u hu e x y)
def splitN (t : Lt) (cut : List Rc) (a b : Int) : List Lt := [⟨a, t.ow, formO and t.ar cut, insS t.id t.fr⟩, ⟨b, t.ow, formO andnot t.ar cut, insS t.id t.fr⟩]
structure SplitOk (one : List Rc → Bool) (t : Lt) (cut : List Rc) (a b : Int) (l : List Lt) : Prop where
 mem : t ∈ l
 ar : ∀ r ∈ t.ar, ROk r
 cok : ∀ r ∈ cut, ROk r
 na : numOk a
 nb : numOk b
 ne : a ≠ b
 ta : ¬ Taken l a
 tb : ¬ Taken l b
 one1 : one (formO and t.ar cut) = true
 one2 : one (formO andnot t.ar cut) = true
 len : l.length < 20000
theorem has_and {a b : List Rc} (ha : ∀ r ∈ a, ROk r) (hb : ∀ r ∈ b, ROk r) (x y : Int) : HasL (formO and a b) x y ↔ HasL a x y ∧ HasL b x y := by
 rw [(formO_is rfl ha hb).2]
 simp [hasB]
theorem has_andnot {a b : List Rc} (ha : ∀ r ∈ a, ROk r) (hb : ∀ r ∈ b, ROk r) (x y : Int) : HasL (formO andnot a b) x y ↔ HasL a x y ∧ ¬ HasL b x y := by
 rw [(formO_is rfl ha hb).2]
 simp [hasB, andnot]
theorem wth_len {o : List Int} {l : List Lt} {t : Lt} (ht : t ∈ l) (ho : t.id ∈ o) : (wthL o l).length + 1 ≤ l.length := by
 induction l with
 | nil => exact nomatch ht
 | cons v l ih =>
  have hle : (wthL o l).length ≤ l.length := List.length_filter_le _ _
  rcases List.mem_cons.1 ht with e | ht
  ·subst e
   have : wthL o (t :: l) = wthL o l := by unfold wthL; rw [List.filter_cons, if_neg (by simpa using ho)]
   rw [this, List.length_cons]; omega
  ·have := ih ht
   have h2 : (wthL o (v :: l)).length ≤ (wthL o l).length + 1 := by
    unfold wthL
    rw [List.filter_cons]
    split
    ·simp
    ·omega
   rw [List.length_cons]; omega
theorem split_chg {one : List Rc → Bool} {l : List Lt} (h : Land one l) {t : Lt} {cut : List Rc} {a b : Int} (s : SplitOk one t cut a b l) : LChg one [t.id] (splitN t cut a b) l := by
 have hfa : ∀ n, n ∈ insS t.id t.fr ↔ n = t.id ∨ n ∈ t.fr := fun n => insS_mem _ _ _
 have hta : ∀ u ∈ l, u.id ≠ a ∧ a ∉ u.fr := fun u hu => ⟨fun e => s.ta ⟨u, hu, .inl e⟩, fun e => s.ta ⟨u, hu, .inr e⟩⟩
 have htb : ∀ u ∈ l, u.id ≠ b ∧ b ∉ u.fr := fun u hu => ⟨fun e => s.tb ⟨u, hu, .inl e⟩, fun e => s.tb ⟨u, hu, .inr e⟩⟩
 have ot := h.ok t s.mem
 have hcell : ∀ v ∈ splitN t cut a b, ∀ x y, HasL v.ar x y → HasL t.ar x y := fun v hv x y hh => by
  simp only [splitN, List.mem_cons, List.not_mem_nil, or_false] at hv
  rcases hv with rfl | rfl
  ·exact ((has_and s.ar s.cok x y).1 hh).1
  ·exact ((has_andnot s.ar s.cok x y).1 hh).1
 refine ⟨?_, fun v hv => ?_, ?_, fun v hv u hu hn => ?_, fun v hv u hu => ?_, fun v hv u hu hn => ?_, fun v hv u hu hne => ?_⟩
 ·unfold chL
  rw [len_fold]
  have := wth_len (o := [t.id]) s.mem (by simp)
  have := s.len
  simp [splitN]; omega
 ·simp only [splitN, List.mem_cons, List.not_mem_nil, or_false] at hv
  have hfr : Asc (insS t.id t.fr) ∧ ∀ n ∈ insS t.id t.fr, numOk n := ⟨insS_asc ot.fr.1, fun n hn => by
   rcases (hfa n).1 hn with e | hn
   ·rw [e]; exact ot.id
   ·exact ot.fr.2 n hn⟩
  rcases hv with rfl | rfl
  ·exact ⟨hfr, s.na, ot.ow, s.one1⟩
  ·exact ⟨hfr, s.nb, ot.ow, s.one2⟩
 ·exact ⟨fun u hu => by simp at hu; subst hu; exact s.ne, (fun u hu => nomatch hu), trivial⟩
 ·have hne : u.id ≠ t.id := by simpa using hn
  simp only [splitN, List.mem_cons, List.not_mem_nil, or_false] at hv
  have hx : u.id ∉ insS t.id t.fr := fun c => by
   rcases (hfa _).1 c with e | c
   ·exact hne e
   ·exact h.fr u hu t s.mem c
  rcases hv with rfl | rfl
  ·exact ⟨(hta u hu).1, (hta u hu).2, hx⟩
  ·exact ⟨(htb u hu).1, (htb u hu).2, hx⟩
 ·have hx : ∀ n, (n = a ∨ n = b) → n ∉ insS t.id t.fr := fun n hn c => by
   rcases (hfa _).1 c with e | c <;> rcases hn with rfl | rfl
   ·exact (hta t s.mem).1 e.symm
   ·exact (htb t s.mem).1 e.symm
   ·exact (hta t s.mem).2 c
   ·exact (htb t s.mem).2 c
  simp only [splitN, List.mem_cons, List.not_mem_nil, or_false] at hv hu
  rcases hv with rfl | rfl <;> rcases hu with rfl | rfl
  ·exact hx _ (.inl rfl)
  ·exact hx _ (.inl rfl)
  ·exact hx _ (.inr rfl)
  ·exact hx _ (.inr rfl)
 ·have hne : u.id ≠ t.id := by simpa using hn
  intro x y c
  exact h.off t s.mem u hu (fun e => hne e.symm) x y ⟨hcell v hv x y c.1, c.2⟩
 ·simp only [splitN, List.mem_cons, List.not_mem_nil, or_false] at hv hu
  rcases hv with rfl | rfl <;> rcases hu with rfl | rfl
  ·exact absurd rfl hne
  ·intro x y c
   exact ((has_andnot s.ar s.cok x y).1 c.2).2 ((has_and s.ar s.cok x y).1 c.1).2
  ·intro x y c
   exact ((has_andnot s.ar s.cok x y).1 c.1).2 ((has_and s.ar s.cok x y).1 c.2).2
  ·exact absurd rfl hne
def From (v : Lt) (k : Int) : Prop := v.id = k ∨ k ∈ v.fr
structure Same13 (o : List Int) (n l : List Lt) : Prop where
 mem : ∀ k ∈ o, ∃ t ∈ l, t.id = k
 up : ∀ w ∈ n, ∀ x y, HasL w.ar x y → ∃ t ∈ l, t.id ∈ o ∧ HasL t.ar x y
 down : ∀ t ∈ l, t.id ∈ o → ∀ x y, HasL t.ar x y → ∃ w ∈ n, HasL w.ar x y
 line : ∀ t ∈ l, t.id ∈ o → ∀ w ∈ n, ∀ x y, HasL t.ar x y → HasL w.ar x y → ∀ k, From t k → From w k
 some : ∀ t ∈ l, t.id ∈ o → ∃ w ∈ n, ∀ k, From t k → From w k
theorem Same13.has {o : List Int} {n l : List Lt} (h : Same13 o n l) (x y : Int) : (∃ u ∈ chL o n l, HasL u.ar x y) ↔ ∃ u ∈ l, HasL u.ar x y := by
 constructor
 ·rintro ⟨u, hu, hh⟩
  rcases mem_chL.1 hu with hu | hu
  ·obtain ⟨t, ht, _, h2⟩ := h.up u hu x y hh
   exact ⟨t, ht, h2⟩
  ·exact ⟨u, hu.1, hh⟩
 ·rintro ⟨u, hu, hh⟩
  by_cases c : u.id ∈ o
  ·obtain ⟨w, hw, h2⟩ := h.down u hu c x y hh
   exact ⟨w, mem_chL.2 (.inl hw), h2⟩
  ·exact ⟨u, mem_chL.2 (.inr ⟨hu, c⟩), hh⟩
def Line (l : List Lt) (k : Int) (A : List Rc) : Prop := ∀ x y, HasL A x y → ∃ v ∈ l, HasL v.ar x y ∧ From v k
theorem line_new {l : List Lt} {t : Lt} (h : t ∈ l) : Line l t.id t.ar := fun x y hh => ⟨t, h, hh, .inl rfl⟩
theorem Line.chg {o : List Int} {n l : List Lt} {k : Int} {A : List Rc} (h : Line l k A) (s : Same13 o n l) : Line (chL o n l) k A := fun x y hh => by
 obtain ⟨v, hv, h1, h2⟩ := h x y hh
 by_cases c : v.id ∈ o
 ·obtain ⟨w, hw, h3⟩ := s.down v hv c x y h1
  exact ⟨w, mem_chL.2 (.inl hw), h3, s.line v hv c w hw x y h1 h3 k h2⟩
 ·exact ⟨v, mem_chL.2 (.inr ⟨hv, c⟩), h1, h2⟩
theorem Line.add {n l : List Lt} {k : Int} {A : List Rc} (h : Line l k A) : Line (chL [] n l) k A := fun x y hh => by
 obtain ⟨v, hv, h1, h2⟩ := h x y hh
 exact ⟨v, mem_chL.2 (.inr ⟨hv, by simp⟩), h1, h2⟩
theorem Taken.chg {o : List Int} {n l : List Lt} {k : Int} (h : Taken l k) (s : Same13 o n l) : Taken (chL o n l) k := by
 obtain ⟨v, hv, h2⟩ := h
 by_cases c : v.id ∈ o
 ·obtain ⟨w, hw, h3⟩ := s.some v hv c
  exact ⟨w, mem_chL.2 (.inl hw), h3 k h2⟩
 ·exact ⟨v, mem_chL.2 (.inr ⟨hv, c⟩), h2⟩
theorem Taken.add {n l : List Lt} {k : Int} (h : Taken l k) : Taken (chL [] n l) k := by
 obtain ⟨v, hv, h2⟩ := h
 exact ⟨v, mem_chL.2 (.inr ⟨hv, by simp⟩), h2⟩
theorem split_same {one : List Rc → Bool} {l : List Lt} (h : Land one l) {t : Lt} {cut : List Rc} {a b : Int} (s : SplitOk one t cut a b l) : Same13 [t.id] (splitN t cut a b) l := by
 have hw : ∀ w ∈ splitN t cut a b, w.fr = insS t.id t.fr := fun w hw => by
  simp only [splitN, List.mem_cons, List.not_mem_nil, or_false] at hw
  rcases hw with rfl | rfl <;> rfl
 have hid : ∀ u ∈ l, u.id ∈ [t.id] → u = t := fun u hu hi => h.asc.one hu s.mem (by simpa using hi)
 have hfrom : ∀ w ∈ splitN t cut a b, ∀ k, From t k → From w k := fun w hw2 k hk => .inr (by
  rw [hw w hw2, insS_mem]
  exact hk.imp Eq.symm id)
 refine ⟨fun k hk => ⟨t, s.mem, (List.mem_singleton.1 hk).symm⟩, fun w hw2 x y hh => ⟨t, s.mem, by simp, ?_⟩, fun u hu hi x y hh => ?_, fun u hu hi w hw2 x y _ _ k hk => ?_, fun u hu hi => ?_⟩
 ·simp only [splitN, List.mem_cons, List.not_mem_nil, or_false] at hw2
  rcases hw2 with rfl | rfl
  ·exact ((has_and s.ar s.cok x y).1 hh).1
  ·exact ((has_andnot s.ar s.cok x y).1 hh).1
 ·rw [hid u hu hi] at hh
  by_cases c : HasL cut x y
  ·exact ⟨_, List.mem_cons_self .., (has_and s.ar s.cok x y).2 ⟨hh, c⟩⟩
  ·exact ⟨_, List.mem_cons_of_mem _ (List.mem_cons_self ..), (has_andnot s.ar s.cok x y).2 ⟨hh, c⟩⟩
 ·rw [hid u hu hi] at hk
  exact hfrom w hw2 k hk
 ·rw [hid u hu hi]
  exact ⟨_, List.mem_cons_self .., fun k hk => hfrom _ (List.mem_cons_self ..) k hk⟩
structure AddOk (one : List Rc → Bool) (t : Lt) (l : List Lt) : Prop where
 ok : LtOk one t
 fr : t.fr = []
 new : ¬ Taken l t.id
 off : ∀ u ∈ l, Ap13 t.ar u.ar
 len : l.length < 20000
theorem wth_nil (l : List Lt) : wthL [] l = l := by unfold wthL; simp
theorem add_chg {one : List Rc → Bool} {l : List Lt} {t : Lt} (s : AddOk one t l) : LChg one [] [t] l := by
 have e : ∀ v ∈ [t], v = t := fun v hv => by simpa using hv
 refine ⟨?_, fun v hv => by rw [e v hv]; exact s.ok, ⟨(fun u hu => nomatch hu), trivial⟩, fun v hv u hu _ => ?_, fun v hv u hu => ?_, fun v hv u hu _ => by rw [e v hv]; exact s.off u hu, fun v hv u hu hne => ?_⟩
 ·have := s.len
  unfold chL; rw [len_fold, wth_nil]; simp; omega
 ·rw [e v hv, s.fr]
  exact ⟨fun c => s.new ⟨u, hu, .inl c⟩, fun c => s.new ⟨u, hu, .inr c⟩, by simp⟩
 ·rw [e u hu, s.fr]; simp
 ·rw [e v hv, e u hu] at hne; exact absurd rfl hne
def ownT (t : Lt) (w : Int) : Lt := ⟨t.id, w, t.ar, t.fr⟩
theorem trans_chg {one : List Rc → Bool} {l : List Lt} (h : Land one l) {t : Lt} (ht : t ∈ l) {w : Int} (hw : 0 ≤ w ∧ w ≤ 1073741824) : LChg one [t.id] [ownT t w] l ∧ Same13 [t.id] [ownT t w] l := by
 have e : ∀ v ∈ [ownT t w], v = ownT t w := fun v hv => by simpa using hv
 have ot := h.ok t ht
 have hid : ∀ u ∈ l, u.id ∈ [t.id] → u = t := fun u hu hi => h.asc.one hu ht (by simpa using hi)
 refine ⟨⟨?_, fun v hv => by rw [e v hv]; exact ⟨ot.fr, ot.id, hw, ot.one⟩, ⟨(fun u hu => nomatch hu), trivial⟩, fun v hv u hu hn => ?_, fun v hv u hu => ?_, fun v hv u hu hn => ?_, fun v hv u hu hne => ?_⟩, ⟨fun k hk => ⟨t, ht, (List.mem_singleton.1 hk).symm⟩, fun v hv x y hh => ⟨t, ht, by simp, by rw [e v hv] at hh; exact hh⟩, fun u hu hi x y hh => ⟨_, List.mem_cons_self .., by rw [hid u hu hi] at hh; exact hh⟩, fun u hu hi v hv x y _ _ k hk => by rw [hid u hu hi] at hk; rw [e v hv]; exact hk, fun u hu hi => ⟨_, List.mem_cons_self .., fun k hk => by rw [hid u hu hi] at hk; exact hk⟩⟩⟩
 ·have := wth_len (o := [t.id]) ht (by simp)
  have := h.len
  unfold chL; rw [len_fold]; simp; omega
 ·have hne : u.id ≠ t.id := by simpa using hn
  rw [e v hv]
  exact ⟨hne, h.fr t ht u hu, h.fr u hu t ht⟩
 ·rw [e v hv, e u hu]; exact h.fr t ht t ht
 ·have hne : u.id ≠ t.id := by simpa using hn
  rw [e v hv]
  exact h.off t ht u hu (fun c => hne c.symm)
 ·rw [e v hv, e u hu] at hne; exact absurd rfl hne
structure JoinOk (one : List Rc → Bool) (o : List Int) (t : Lt) (l : List Lt) : Prop where
 two : 1 ≤ o.length
 mem : ∀ k ∈ o, ∃ u ∈ l, u.id = k
 fr : ∀ k, k ∈ t.fr ↔ ∃ u ∈ l, u.id ∈ o ∧ From u k
 ar : ∀ x y, HasL t.ar x y ↔ ∃ u ∈ l, u.id ∈ o ∧ HasL u.ar x y
 ok : LtOk one t
 new : ¬ Taken l t.id
theorem join_chg {one : List Rc → Bool} {l : List Lt} (h : Land one l) {o : List Int} {t : Lt} (s : JoinOk one o t l) : LChg one o [t] l ∧ Same13 o [t] l := by
 have e : ∀ v ∈ [t], v = t := fun v hv => by simpa using hv
 have hnt : t.id ∉ t.fr := fun c => by
  obtain ⟨u, hu, _, h1 | h1⟩ := (s.fr _).1 c
  ·exact s.new ⟨u, hu, .inl h1⟩
  ·exact s.new ⟨u, hu, .inr h1⟩
 obtain ⟨k0, hk0⟩ : ∃ k, k ∈ o := by
  cases ho : o with
  | nil => have := s.two; rw [ho] at this; simp at this
  | cons a r => exact ⟨a, by simp⟩
 obtain ⟨u0, hu0, e0⟩ := s.mem k0 hk0
 refine ⟨⟨?_, fun v hv => by rw [e v hv]; exact s.ok, ⟨(fun u hu => nomatch hu), trivial⟩, fun v hv u hu hn => ?_, fun v hv u hu => by rw [e v hv, e u hu]; exact hnt, fun v hv u hu hn => ?_, fun v hv u hu hne => ?_⟩, ⟨s.mem, fun v hv x y hh => by rw [e v hv] at hh; exact (s.ar x y).1 hh, fun u hu hi x y hh => ⟨t, by simp, (s.ar x y).2 ⟨u, hu, hi, hh⟩⟩, fun u hu hi v hv x y _ _ k hk => by rw [e v hv]; exact .inr ((s.fr k).2 ⟨u, hu, hi, hk⟩), fun u hu hi => ⟨t, by simp, fun k hk => .inr ((s.fr k).2 ⟨u, hu, hi, hk⟩)⟩⟩⟩
 ·have := wth_len (o := o) hu0 (by rw [e0]; exact hk0)
  have := h.len
  unfold chL; rw [len_fold]; simp; omega
 ·rw [e v hv]
  refine ⟨fun c => s.new ⟨u, hu, .inl c⟩, fun c => s.new ⟨u, hu, .inr c⟩, fun c => ?_⟩
  obtain ⟨q, hq, hqi, h1 | h1⟩ := (s.fr _).1 c
  ·rw [h1] at hqi; exact hn hqi
  ·exact h.fr u hu q hq h1
 ·rw [e v hv]
  intro x y c
  obtain ⟨q, hq, hqi, h1⟩ := (s.ar x y).1 c.1
  have := h.at_one hq hu h1 c.2
  rw [this] at hqi
  exact hn hqi
 ·rw [e v hv, e u hu] at hne; exact absurd rfl hne
def totL (l : List Lt) : Int := (l.map fun t => areaL t.ar).sum
theorem tot_cons (t : Lt) (l : List Lt) : totL (t :: l) = areaL t.ar + totL l := by unfold totL; simp
theorem tot_ins (t : Lt) : ∀ l, totL (insL t l) = areaL t.ar + totL l
 | [] => by unfold insL; rw [tot_cons]
 | v :: l => by
  unfold insL
  split
  ·rw [tot_cons, tot_ins t l, tot_cons]; omega
  ·rw [tot_cons]
theorem tot_fold : ∀ (n a : List Lt), totL (n.foldl (fun a t => insL t a) a) = totL n + totL a
 | [], a => by simp [totL]
 | t :: n, a => by rw [List.foldl_cons, tot_fold n, tot_ins, tot_cons]; omega
theorem tot_wth (o : List Int) : ∀ l, totL (wthL o l) + totL (l.filter fun t => decide (t.id ∈ o)) = totL l
 | [] => rfl
 | v :: l => by
  have ih := tot_wth o l
  unfold wthL at ih ⊢
  by_cases c : v.id ∈ o
  ·rw [List.filter_cons, if_neg (by simpa using c), List.filter_cons, if_pos (by simpa using c), tot_cons, tot_cons]; omega
  ·rw [List.filter_cons, if_pos (by simpa using c), List.filter_cons, if_neg (by simpa using c), tot_cons, tot_cons]; omega
theorem tot_ch (o : List Int) (n l : List Lt) : totL (chL o n l) + totL (l.filter fun t => decide (t.id ∈ o)) = totL n + totL l := by
 unfold chL
 rw [tot_fold]
 have := tot_wth o l
 omega
theorem filter_one {l : List Lt} (h : AscL l) {t : Lt} (ht : t ∈ l) : (l.filter fun u => decide (u.id ∈ [t.id])) = [t] := by
 induction l with
 | nil => exact nomatch ht
 | cons v l ih =>
  rcases List.mem_cons.1 ht with e | ht
  ·subst e
   rw [List.filter_cons, if_pos (by simp)]
   have : (l.filter fun u => decide (u.id ∈ [t.id])) = [] := by
    rw [List.filter_eq_nil_iff]
    intro u hu
    have := h.1 u hu
    simp; omega
   rw [this]
  ·have := h.1 t ht
   rw [List.filter_cons, if_neg (by simp; omega)]
   exact ih h.2 ht
theorem isForm_nil : IsForm [] := ⟨[], trivial, rfl⟩
theorem split_tot {one : List Rc → Bool} {l : List Lt} (h : Land one l) {t : Lt} {cut : List Rc} {a b : Int} (s : SplitOk one t cut a b l) (hf : IsForm t.ar) : totL (chL [t.id] (splitN t cut a b) l) = totL l := by
 have h1 := tot_ch [t.id] (splitN t cut a b) l
 rw [filter_one h.asc s.mem] at h1
 have h2 := area_adds (formO_is (op := and) rfl s.ar s.cok).1 (formO_is (op := andnot) rfl s.ar s.cok).1 hf isForm_nil (fun x y => by
  rw [has_and s.ar s.cok, has_andnot s.ar s.cok]
  by_cases c : HasL cut x y <;> simp [c]) (fun x y => by
  rw [has_and s.ar s.cok, has_andnot s.ar s.cok]
  simp [HasL]
  intro r hr hh q hq hh2
  intros
  exact ⟨q, hq, hh2⟩)
 have e0 : areaL [] = 0 := rfl
 have e1 : totL (splitN t cut a b) = areaL (formO and t.ar cut) + areaL (formO andnot t.ar cut) := by
  unfold splitN
  rw [tot_cons, tot_cons]
  simp [totL]
 have e2 : totL [t] = areaL t.ar := by rw [tot_cons]; simp [totL]
 rw [e1, e2] at h1
 rw [e0] at h2
 omega
theorem trans_tot {one : List Rc → Bool} {l : List Lt} (h : Land one l) {t : Lt} (ht : t ∈ l) (w : Int) : totL (chL [t.id] [ownT t w] l) = totL l := by
 have h1 := tot_ch [t.id] [ownT t w] l
 rw [filter_one h.asc ht, tot_cons, tot_cons] at h1
 have : areaL (ownT t w).ar = areaL t.ar := rfl
 omega
theorem add_tot (t : Lt) (l : List Lt) : totL (chL [] [t] l) = totL l + areaL t.ar := by
 have h1 := tot_ch [] [t] l
 have : (l.filter fun u => decide (u.id ∈ ([] : List Int))) = [] := by simp
 rw [this, tot_cons] at h1
 simp only [totL, List.map_nil, List.sum_nil] at h1 ⊢
 omega
def OffL : List Lt → Prop
 | [] => True
 | t :: l => (∀ u ∈ l, Ap13 t.ar u.ar) ∧ OffL l
theorem Land.offL {one : List Rc → Bool} {l : List Lt} (h : Land one l) (p : Lt → Bool) : OffL (l.filter p) := by
 have key : ∀ m : List Lt, AscL m → (∀ t ∈ m, t ∈ l) → OffL (m.filter p) := by
  intro m
  induction m with
  | nil => intro _ _; trivial
  | cons v m ih =>
   intro ha hm
   rw [List.filter_cons]
   split
   ·refine ⟨fun u hu => ?_, ih ha.2 (fun t ht => hm t (by simp [ht]))⟩
    have hu2 := (List.mem_filter.1 hu).1
    have := ha.1 u hu2
    exact h.off v (hm v (by simp)) u (hm u (by simp [hu2])) (by omega)
   ·exact ih ha.2 (fun t ht => hm t (by simp [ht]))
 exact key l h.asc (fun t ht => ht)
theorem has_flat (F : List Lt) (x y : Int) : HasL (F.flatMap fun u => u.ar) x y ↔ ∃ u ∈ F, HasL u.ar x y := by
 unfold HasL
 constructor
 ·rintro ⟨r, hr, h⟩
  obtain ⟨u, hu, h2⟩ := List.mem_flatMap.1 hr
  exact ⟨u, hu, r, h2, h⟩
 ·rintro ⟨u, hu, r, hr, h⟩
  exact ⟨r, List.mem_flatMap.2 ⟨u, hu, hr⟩, h⟩
theorem tot_forms : ∀ (F : List Lt), OffL F → (∀ u ∈ F, IsForm u.ar ∧ ∀ r ∈ u.ar, ROk r) → ∀ A, IsForm A → (∀ x y, HasL A x y ↔ ∃ u ∈ F, HasL u.ar x y) → areaL A = totL F
 | [], _, _, A, hA, h => by
  have h2 := area_adds hA isForm_nil hA isForm_nil (fun x y => by simp [HasL]) (fun x y => by
   constructor
   ·rintro ⟨r, hr, _⟩; exact nomatch hr
   ·rintro ⟨_, r, hr, _⟩; exact nomatch hr)
  have h3 := area_adds isForm_nil isForm_nil hA isForm_nil (fun x y => by
   rw [h x y]
   constructor
   ·rintro ⟨u, hu, _⟩; exact nomatch hu
   ·rintro (⟨r, hr, _⟩ | ⟨r, hr, _⟩) <;> exact nomatch hr) (fun x y => by
   constructor
   ·rintro ⟨r, hr, _⟩; exact nomatch hr
   ·rintro ⟨_, r, hr, _⟩; exact nomatch hr)
  have e0 : areaL [] = 0 := rfl
  have e1 : totL [] = 0 := rfl
  omega
 | v :: F, ho, hf, A, hA, h => by
  have hr : ∀ r ∈ F.flatMap (fun u => u.ar), ROk r := fun r hr => by
   obtain ⟨u, hu, h2⟩ := List.mem_flatMap.1 hr
   exact (hf u (by simp [hu])).2 r h2
  obtain ⟨g1, g2⟩ := formL_is hr
  have ih := tot_forms F ho.2 (fun u hu => hf u (by simp [hu])) _ g1 (fun x y => (g2 x y).trans (has_flat F x y))
  have h2 := area_adds (hf v (by simp)).1 g1 hA isForm_nil (fun x y => by
   rw [h x y, g2 x y, has_flat]
   simp) (fun x y => by
   rw [g2 x y, has_flat]
   constructor
   ·rintro ⟨r, hr, _⟩; exact nomatch hr
   ·rintro ⟨c1, u, hu, c2⟩; exact absurd ⟨c1, c2⟩ (ho.1 u hu x y))
  have e0 : areaL [] = 0 := rfl
  rw [tot_cons]
  omega
theorem join_tot {one : List Rc → Bool} {l : List Lt} (h : Land one l) {o : List Int} {t : Lt} (s : JoinOk one o t l) (hf : ∀ u ∈ l, IsForm u.ar ∧ ∀ r ∈ u.ar, ROk r) (ht : IsForm t.ar) : totL (chL o [t] l) = totL l := by
 have h1 := tot_ch o [t] l
 have h2 := tot_forms (l.filter fun u => decide (u.id ∈ o)) (h.offL _) (fun u hu => hf u (List.mem_filter.1 hu).1) t.ar ht (fun x y => by
  rw [s.ar x y]
  constructor
  ·rintro ⟨u, hu, hi, hh⟩; exact ⟨u, List.mem_filter.2 ⟨hu, by simpa using hi⟩, hh⟩
  ·rintro ⟨u, hu, hh⟩; exact ⟨u, (List.mem_filter.1 hu).1, by simpa using (List.mem_filter.1 hu).2, hh⟩)
 have e2 : totL [t] = areaL t.ar := by rw [tot_cons]; simp [totL]
 omega
end Go.Proofs.YtngddecpfhlilaaGreat
namespace Go.Proofs.YtngddecpfhlilaaGreat
theorem ascL_eq : ∀ {l m : List Lt}, AscL l → AscL m → (∀ t, t ∈ l ↔ t ∈ m) → l = m
 | [], [], _, _, _ => rfl
 | [], v :: m, _, _, h => absurd ((h v).2 (by simp)) (by simp)
 | v :: l, [], _, _, h => absurd ((h v).1 (by simp)) (by simp)
 | v :: l, u :: m, hl, hm, h => by
  have e : v = u := by
   rcases List.mem_cons.1 ((h v).1 (by simp)) with e | h1
   ·exact e
   rcases List.mem_cons.1 ((h u).2 (by simp)) with e | h2
   ·exact e.symm
   have := hm.1 v h1
   have := hl.1 u h2
   omega
  subst e
  have : l = m := ascL_eq hl.2 hm.2 (fun t => by
   constructor
   ·intro ht
    rcases List.mem_cons.1 ((h t).1 (by simp [ht])) with e | h1
    ·have := hl.1 t ht
     rw [e] at this; omega
    ·exact h1
   ·intro ht
    rcases List.mem_cons.1 ((h t).2 (by simp [ht])) with e | h1
    ·have := hm.1 t ht
     rw [e] at this; omega
    ·exact h1)
  rw [this]
theorem insS_lenA {x : Int} {t : List Int} (h : x ∉ t) : (insS x t).length = t.length + 1 := by
 induction t with
 | nil => rfl
 | cons a t ih =>
  unfold insS
  split
  ·rfl
  ·split
   ·rename_i _ e
    exact absurd (by simp [e]) h
   ·rw [List.length_cons, ih (fun c => h (by simp [c])), List.length_cons]
theorem back_fr {fr f : List Int} {a b k : Int} (ht : Asc f) (hfr : Asc fr) (h : ∀ n, n ∈ fr ↔ n = a ∨ n = b ∨ n = k ∨ n ∈ f) (ha : a ∉ f) (hb : b ∉ f) (hk : k ∉ f) (hab : a ≠ b) (hak : a ≠ k) (hbk : b ≠ k) : fr.length = f.length + 3 := by
 have e : fr = insS a (insS b (insS k f)) := asc_eq hfr (insS_asc (insS_asc (insS_asc ht))) (fun n => by rw [h n, insS_mem, insS_mem, insS_mem])
 have h1 : k ∉ f := hk
 have h2 : b ∉ insS k f := fun c => by
  rcases (insS_mem _ _ _).1 c with c | c
  ·exact hbk c
  ·exact hb c
 have h3 : a ∉ insS b (insS k f) := fun c => by
  rcases (insS_mem _ _ _).1 c with c | c
  ·exact hab c
  rcases (insS_mem _ _ _).1 c with c | c
  ·exact hak c
  ·exact ha c
 rw [e, insS_lenA h3, insS_lenA h2, insS_lenA h1]
theorem back_land {one : List Rc → Bool} {l : List Lt} (h : Land one l) {t w : Lt} {cut : List Rc} {a b : Int} (s : SplitOk one t cut a b l) {o : List Int} (ho : ∀ n, n ∈ o ↔ n = a ∨ n = b) (hw : ∀ u ∈ l, u.id ≠ t.id → u.id ≠ w.id) :
  chL o [w] (chL [t.id] (splitN t cut a b) l) = chL [t.id] [w] l := by
 have hta : ∀ u ∈ l, u.id ≠ a := fun u hu e => s.ta ⟨u, hu, .inl e⟩
 have htb : ∀ u ∈ l, u.id ≠ b := fun u hu e => s.tb ⟨u, hu, .inl e⟩
 have hmem : ∀ u, u ∈ chL o [w] (chL [t.id] (splitN t cut a b) l) ↔ u ∈ chL [t.id] [w] l := fun u => by
  rw [mem_chL, mem_chL, mem_chL]
  constructor
  ·rintro (h1 | ⟨h1 | h1, h2⟩)
   ·exact .inl h1
   ·exfalso
    apply h2
    rw [ho]
    simp only [splitN, List.mem_cons, List.not_mem_nil, or_false] at h1
    rcases h1 with rfl | rfl
    ·exact .inl rfl
    ·exact .inr rfl
   ·exact .inr h1
  ·rintro (h1 | h1)
   ·exact .inl h1
   ·refine .inr ⟨.inr h1, fun c => ?_⟩
    rcases (ho _).1 c with e | e
    ·exact hta u h1.1 e
    ·exact htb u h1.1 e
 have hasc : AscL (chL [t.id] (splitN t cut a b) l) := (h.chg (split_chg h s)).asc
 refine ascL_eq (asc_chL hasc ⟨(fun u hu => nomatch hu), trivial⟩ (fun v hv u hu hn => ?_)) (asc_chL h.asc ⟨(fun u hu => nomatch hu), trivial⟩ (fun v hv u hu hn => ?_)) hmem
 ·rw [List.mem_singleton.1 hv]
  rcases mem_chL.1 hu with h1 | h1
  ·exfalso
   apply hn
   rw [ho]
   simp only [splitN, List.mem_cons, List.not_mem_nil, or_false] at h1
   rcases h1 with rfl | rfl
   ·exact .inl rfl
   ·exact .inr rfl
  ·exact hw u h1.1 (by simpa using h1.2)
 ·rw [List.mem_singleton.1 hv]
  exact hw u hu (by simpa using hn)
theorem wth_one {l : List Lt} (h : AscL l) {t : Lt} (ht : t ∈ l) : (wthL [t.id] l).length + 1 = l.length := by
 have h1 := filter_one h ht
 have h2 : (wthL [t.id] l).length + (l.filter fun u => decide (u.id ∈ [t.id])).length = l.length := by
  clear h h1 ht
  induction l with
  | nil => rfl
  | cons v l ih =>
   unfold wthL at ih ⊢
   by_cases c : v.id ∈ [t.id]
   ·rw [List.filter_cons, if_neg (by simpa using c), List.filter_cons, if_pos (by simpa using c), List.length_cons, List.length_cons]; omega
   ·rw [List.filter_cons, if_pos (by simpa using c), List.filter_cons, if_neg (by simpa using c), List.length_cons, List.length_cons]; omega
 rw [h1] at h2
 exact h2
theorem back_len {l : List Lt} (h : AscL l) {t w : Lt} (ht : t ∈ l) : (chL [t.id] [w] l).length = l.length := by
 unfold chL
 rw [len_fold]
 exact wth_one h ht
theorem split_len {l : List Lt} (h : AscL l) {t : Lt} (ht : t ∈ l) (cut : List Rc) (a b : Int) : (chL [t.id] (splitN t cut a b) l).length = l.length + 1 := by
 unfold chL
 rw [len_fold]
 have := wth_one h ht
 simp [splitN]; omega
def findL (l : List Lt) (k : Int) : Option Lt := l.find? fun t => decide (t.id = k)
theorem find_mem {l : List Lt} {k : Int} {t : Lt} (h : findL l k = some t) : t ∈ l ∧ t.id = k := by
 unfold findL at h
 exact ⟨List.mem_of_find?_eq_some h, by simpa using List.find?_some h⟩
theorem find_of {l : List Lt} (h : AscL l) {t : Lt} (ht : t ∈ l) : findL l t.id = some t := by
 cases hf : findL l t.id with
 | none =>
  unfold findL at hf
  have := List.find?_eq_none.1 hf t ht
  simp at this
 | some u =>
  obtain ⟨h1, h2⟩ := find_mem hf
  rw [h.one h1 ht h2]
end Go.Proofs.YtngddecpfhlilaaGreat
namespace Go.Proofs.YtngddecpfhlilaaGreat
def SpOk (P : List (Int × Int)) : Prop := (∀ p ∈ P, p.1 < p.2) ∧ P.Pairwise (fun p q => p.2 < q.1)
def inS (P : List (Int × Int)) (y : Int) : Prop := ∃ p ∈ P, p.1 ≤ y ∧ y < p.2
def unt (P : List (Int × Int)) : List Int := P.flatMap fun p => [p.1, p.2]
theorem unt_cons (p : Int × Int) (P : List (Int × Int)) : unt (p :: P) = p.1 :: p.2 :: unt P := rfl
theorem unt_twos : ∀ t, Even t → unt (twos t) = t := by
 intro t he
 refine even_ind (P := fun t => unt (twos t) = t) rfl ?_ t he
 intro a b t _ ih
 rw [twos, unt_cons, ih]
theorem unt_even : ∀ P, Even (unt P) := by
 intro P
 induction P with
 | nil => rfl
 | cons p P ih => rw [unt_cons]; unfold Even at *; simp only [List.length_cons]; omega
theorem unt_mem {P : List (Int × Int)} {z : Int} (h : z ∈ unt P) : ∃ p ∈ P, z = p.1 ∨ z = p.2 := by
 obtain ⟨p, hp, hz⟩ := List.mem_flatMap.1 h
 simp at hz
 exact ⟨p, hp, hz⟩
theorem SpOk.tail {p : Int × Int} {P : List (Int × Int)} (h : SpOk (p :: P)) : SpOk P := ⟨fun q hq => h.1 q (List.mem_cons_of_mem _ hq), (List.pairwise_cons.1 h.2).2⟩
theorem SpOk.head {p : Int × Int} {P : List (Int × Int)} (h : SpOk (p :: P)) : p.1 < p.2 := h.1 p List.mem_cons_self
theorem SpOk.after {p : Int × Int} {P : List (Int × Int)} (h : SpOk (p :: P)) : ∀ q ∈ P, p.2 < q.1 := (List.pairwise_cons.1 h.2).1
theorem SpOk.nil : SpOk [] := ⟨fun _ h => (by cases h), List.Pairwise.nil⟩
theorem unt_asc : ∀ {P}, SpOk P → Asc (unt P) := by
 intro P
 induction P with
 | nil => intro _; trivial
 | cons p P ih =>
  intro h
  rw [unt_cons]
  refine ⟨h.head, (ih h.tail).cons (fun x hx => ?_)⟩
  obtain ⟨q, hq, e⟩ := unt_mem hx
  have := h.after q hq
  have := h.tail.1 q hq
  rcases e with rfl | rfl <;> omega
theorem twos_ok : ∀ t, Even t → Asc t → SpOk (twos t) := by
 intro t he
 refine even_ind (P := fun t => Asc t → SpOk (twos t)) (fun _ => SpOk.nil) ?_ t he
 intro a b t ht ih h
 have k := ih h.2.tail
 rw [twos]
 refine ⟨fun p hp => ?_, List.pairwise_cons.2 ⟨fun q hq => ?_, k.2⟩⟩
 ·rcases List.mem_cons.1 hp with rfl | hp
  ·exact h.1
  ·exact k.1 p hp
 ·have : q.1 ∈ t := by
   have e := unt_twos t ht
   rw [← e]
   exact List.mem_flatMap.2 ⟨q, hq, by simp⟩
  exact h.2.lt _ this
theorem unt_in : ∀ {P}, SpOk P → ∀ y, inT (unt P) y = true ↔ inS P y := by
 intro P
 induction P with
 | nil => intro _ y; exact ⟨fun h => by simp [unt, inT, cntT] at h, fun ⟨p, hp, _⟩ => (by cases hp)⟩
 | cons p P ih =>
  intro h y
  have ha := unt_asc h
  rw [unt_cons] at ha ⊢
  rw [inT_two ha, ih h.tail y]
  unfold inS
  simp only [List.mem_cons, exists_eq_or_imp]
theorem twos_in {t : List Int} (he : Even t) (ha : Asc t) (y : Int) : inS (twos t) y ↔ inT t y = true := by
 rw [← unt_in (twos_ok t he ha), unt_twos t he]
def comS (P Q : List (Int × Int)) : List (Int × Int) :=
 match P, Q with
 | p :: P, q :: Q => (if max p.1 q.1 < min p.2 q.2 then [(max p.1 q.1, min p.2 q.2)] else []) ++ (if p.2 < q.2 then comS P (q :: Q) else comS (p :: P) Q)
 | _, _ => []
termination_by P.length + Q.length
theorem comS_left (Q : List (Int × Int)) : comS [] Q = [] := by rw [comS]; intro p P q Q h; cases h
theorem comS_right (P : List (Int × Int)) : comS P [] = [] := by rw [comS]; intro p P q Q _ h; cases h
structure ComIs (P Q R : List (Int × Int)) : Prop where
 ok : SpOk R
 inn : ∀ y, inS R y ↔ inS P y ∧ inS Q y
 mem : ∀ r ∈ R, (∃ p ∈ P, p.1 ≤ r.1 ∧ r.2 ≤ p.2) ∧ ∃ q ∈ Q, q.1 ≤ r.1 ∧ r.2 ≤ q.2
theorem comS_is : ∀ (n : Nat) (P Q : List (Int × Int)), P.length + Q.length ≤ n → SpOk P → SpOk Q → ComIs P Q (comS P Q) := by
  intro n
  induction n with
  | zero =>
    intro P Q hn _ _
    obtain rfl : P = [] := List.length_eq_zero_iff.1 (by omega)
    rw [comS_left]
    exact ⟨SpOk.nil, fun y => ⟨fun ⟨p, hp, _⟩ => (by cases hp), fun ⟨⟨p, hp, _⟩, _⟩ => (by cases hp)⟩, fun r hr => (by cases hr)⟩
  | succ n ih =>
    intro P Q hn hP hQ
    match P, Q, hP, hQ with
    | [], Q, _, _ =>
      rw [comS_left]
      exact ⟨SpOk.nil, fun y => ⟨fun ⟨p, hp, _⟩ => (by cases hp), fun ⟨⟨p, hp, _⟩, _⟩ => (by cases hp)⟩, fun r hr => (by cases hr)⟩
    | P, [], _, _ =>
      rw [comS_right]
      exact ⟨SpOk.nil, fun y => ⟨fun ⟨p, hp, _⟩ => (by cases hp), fun ⟨_, p, hp, _⟩ => (by cases hp)⟩, fun r hr => (by cases hr)⟩
    | p :: P, q :: Q, hP, hQ =>
      rw [comS]
      have hp := hP.head; have hq := hQ.head
      have key : ∀ {P' Q' R : List (Int × Int)}, ComIs P' Q' R → (∀ z ∈ P', z ∈ p :: P) → (∀ z ∈ Q', z ∈ q :: Q) → (∀ z ∈ P', ∀ w ∈ Q', min p.2 q.2 < max z.1 w.1) → (∀ y, inS (p :: P) y → inS (q :: Q) y → (max p.1 q.1 ≤ y ∧ y < min p.2 q.2) ∨ (inS P' y ∧ inS Q' y)) →
          ComIs (p :: P) (q :: Q) ((if max p.1 q.1 < min p.2 q.2 then [(max p.1 q.1, min p.2 q.2)] else []) ++ R) := by
        intro P' Q' R hR m1 m2 m3 m4
        have up : ∀ {A B : List (Int × Int)} {y : Int}, (∀ z ∈ A, z ∈ B) → inS A y → inS B y := fun h ⟨z, hz, k⟩ => ⟨z, h z hz, k⟩
        have far : ∀ r ∈ R, min p.2 q.2 < r.1 := fun r hr => by
          obtain ⟨⟨a, ha, k1, _⟩, b, hb, k2, _⟩ := hR.mem r hr
          have := m3 a ha b hb
          omega
        have memR : ∀ r ∈ R, (∃ a ∈ p :: P, a.1 ≤ r.1 ∧ r.2 ≤ a.2) ∧ ∃ b ∈ q :: Q, b.1 ≤ r.1 ∧ r.2 ≤ b.2 := fun r hr => by
          obtain ⟨⟨a, ha, k⟩, b, hb, k2⟩ := hR.mem r hr
          exact ⟨⟨a, m1 a ha, k⟩, b, m2 b hb, k2⟩
        by_cases c : max p.1 q.1 < min p.2 q.2
        · rw [if_pos c]
          refine ⟨⟨fun r hr => ?_, ?_⟩, fun y => ?_, fun r hr => ?_⟩
          · rcases List.mem_append.1 hr with hr | hr
            · rw [List.mem_singleton] at hr; subst hr; exact c
            · exact hR.ok.1 r hr
          · rw [List.singleton_append]
            exact List.pairwise_cons.2 ⟨fun r hr => far r hr, hR.ok.2⟩
          · constructor
            · rintro ⟨r, hr, k⟩
              rcases List.mem_append.1 hr with hr | hr
              · rw [List.mem_singleton] at hr; subst hr
                simp only [] at k
                exact ⟨⟨p, List.mem_cons_self, by omega, by omega⟩, q, List.mem_cons_self, by omega, by omega⟩
              · obtain ⟨k1, k2⟩ := (hR.inn y).1 ⟨r, hr, k⟩
                exact ⟨up m1 k1, up m2 k2⟩
            · rintro ⟨k1, k2⟩
              rcases m4 y k1 k2 with k | k
              · exact ⟨_, List.mem_append_left _ (List.mem_singleton.2 rfl), k⟩
              · obtain ⟨r, hr, h⟩ := (hR.inn y).2 k
                exact ⟨r, List.mem_append_right _ hr, h⟩
          · rcases List.mem_append.1 hr with hr | hr
            · rw [List.mem_singleton] at hr; subst hr
              simp only []
              exact ⟨⟨p, List.mem_cons_self, by omega, by omega⟩, q, List.mem_cons_self, by omega, by omega⟩
            · exact memR r hr
        · rw [if_neg c, List.nil_append]
          refine ⟨hR.ok, fun y => ?_, memR⟩
          rw [hR.inn y]
          constructor
          · rintro ⟨k1, k2⟩; exact ⟨up m1 k1, up m2 k2⟩
          · rintro ⟨k1, k2⟩
            rcases m4 y k1 k2 with k | k
            · omega
            · exact k
      have aP := hP.after; have aQ := hQ.after
      by_cases c : p.2 < q.2
      · rw [if_pos c]
        refine key (ih P (q :: Q) (by simp at hn ⊢; omega) hP.tail hQ) (fun z hz => List.mem_cons_of_mem _ hz) (fun z hz => hz) (fun z hz w hw => by have := aP z hz; omega) ?_
        rintro y ⟨a, ha, k1, k2⟩ ⟨b, hb, k3, k4⟩
        rcases List.mem_cons.1 ha with rfl | ha
        · rcases List.mem_cons.1 hb with rfl | hb
          · exact Or.inl (by omega)
          · have := aQ b hb; omega
        · exact Or.inr ⟨⟨a, ha, k1, k2⟩, b, hb, k3, k4⟩
      · rw [if_neg c]
        refine key (ih (p :: P) Q (by simp at hn ⊢; omega) hP hQ.tail) (fun z hz => hz) (fun z hz => List.mem_cons_of_mem _ hz) (fun z hz w hw => by have := aQ w hw; omega) ?_
        rintro y ⟨a, ha, k1, k2⟩ ⟨b, hb, k3, k4⟩
        rcases List.mem_cons.1 hb with rfl | hb
        · rcases List.mem_cons.1 ha with rfl | ha
          · exact Or.inl (by omega)
          · have := aP a ha; omega
        · exact Or.inr ⟨⟨a, ha, k1, k2⟩, b, hb, k3, k4⟩
theorem comS_ok {P Q : List (Int × Int)} (hp : SpOk P) (hq : SpOk Q) : SpOk (comS P Q) := (comS_is _ P Q (Nat.le_refl _) hp hq).ok
theorem comS_in {P Q : List (Int × Int)} (hp : SpOk P) (hq : SpOk Q) (y : Int) : inS (comS P Q) y ↔ inS P y ∧ inS Q y := (comS_is _ P Q (Nat.le_refl _) hp hq).inn y
def insetS (d : Int) (P : List (Int × Int)) : List (Int × Int) := P.filterMap fun p => if p.1 + d < p.2 - d then some (p.1 + d, p.2 - d) else none
theorem inset_mem {d : Int} {P : List (Int × Int)} {r : Int × Int} : r ∈ insetS d P ↔ ∃ p ∈ P, p.1 + d < p.2 - d ∧ r = (p.1 + d, p.2 - d) := by
 unfold insetS
 rw [List.mem_filterMap]
 constructor
 ·rintro ⟨p, hp, e⟩
  by_cases c : p.1 + d < p.2 - d
  ·rw [if_pos c] at e; exact ⟨p, hp, c, by simpa using e.symm⟩
  ·rw [if_neg c] at e; cases e
 ·rintro ⟨p, hp, c, rfl⟩
  exact ⟨p, hp, by rw [if_pos c]⟩
theorem inset_ok {d : Int} (hd : 0 ≤ d) : ∀ {P}, SpOk P → SpOk (insetS d P) := by
  intro P
  induction P with
  | nil => intro _; exact SpOk.nil
  | cons p P ih =>
    intro h
    have k := ih h.tail
    have e : insetS d (p :: P) = if p.1 + d < p.2 - d then (p.1 + d, p.2 - d) :: insetS d P else insetS d P := by
      unfold insetS; rw [List.filterMap_cons]; split
      · next q => by_cases c : p.1 + d < p.2 - d
                  · rw [if_pos c] at q; cases q
                  · rw [if_neg c]
      · next q => by_cases c : p.1 + d < p.2 - d
                  · rw [if_pos c] at q ⊢; simp at q; rw [← q]
                  · rw [if_neg c] at q; cases q
    rw [e]
    by_cases c : p.1 + d < p.2 - d
    · rw [if_pos c]
      refine ⟨fun r hr => ?_, List.pairwise_cons.2 ⟨fun r hr => ?_, k.2⟩⟩
      · rcases List.mem_cons.1 hr with rfl | hr
        · exact c
        · exact k.1 r hr
      · obtain ⟨q, hq, _, rfl⟩ := inset_mem.1 hr
        have := h.after q hq
        simp only []
        omega
    · rw [if_neg c]; exact k
theorem inset_in {d : Int} (hd : 0 ≤ d) {P : List (Int × Int)} (h : SpOk P) (y : Int) : inS (insetS d P) y ↔ ∀ v, y - d ≤ v → v ≤ y + d → inS P v := by
 constructor
 ·rintro ⟨r, hr, k1, k2⟩ v h1 h2
  obtain ⟨p, hp, c, rfl⟩ := inset_mem.1 hr
  simp only [] at k1 k2
  exact ⟨p, hp, by omega, by omega⟩
 ·intro hv
  obtain ⟨p, hp, h1, h2⟩ := hv (y - d) (by omega) (by omega)
  have far : y + d < p.2 := by
   rcases Int.lt_or_le (y + d) p.2 with k | k
   ·exact k
   ·exfalso
    obtain ⟨q, hq, h3, h4⟩ := hv p.2 (by omega) k
    have key : ∀ {P : List (Int × Int)}, SpOk P → ∀ p ∈ P, ∀ q ∈ P, ¬ (q.1 ≤ p.2 ∧ p.2 < q.2) := by
     intro P
     induction P with
     | nil => intro _ p hp; cases hp
     | cons a P ih =>
      rintro h p hp q hq ⟨h3, h4⟩
      have ha := h.head
      rcases List.mem_cons.1 hp with e1 | hp1
      ·rcases List.mem_cons.1 hq with e2 | hq2
       ·subst e1; subst e2; omega
       ·subst e1; have := h.after q hq2; omega
      ·rcases List.mem_cons.1 hq with e2 | hq2
       ·subst e2; have := h.after p hp1; have := h.tail.1 p hp1; omega
       ·exact ih h.tail p hp1 q hq2 ⟨h3, h4⟩
    exact key h p hp q hq ⟨h3, h4⟩
  exact ⟨_, inset_mem.2 ⟨p, hp, by omega, rfl⟩, by simp only []; omega, by simp only []; omega⟩
end Go.Proofs.YtngddecpfhlilaaGreat
namespace Go.Proofs.YtngddecpfhlilaaGreat
def colW (x0 x1 : Int) (s : Slab) : Int := min x1 s.x1 - max x0 s.x0
def wstep (x0 x1 : Int) (q : Int × List (Int × Int)) (s : Slab) : Int × List (Int × Int) := if 0 < colW x0 x1 s then (q.1 - colW x0 x1 s, comS q.2 (twos s.t)) else q
def wfold (x0 x1 : Int) (q : Int × List (Int × Int)) (S : List Slab) : Int × List (Int × Int) := S.foldl (wstep x0 x1) q
def colsIn (x0 x1 : Int) : List Slab → Int
 | [] => 0
 | s :: S => (if 0 < colW x0 x1 s then colW x0 x1 s else 0) + colsIn x0 x1 S
theorem wfold_cons (x0 x1 : Int) (q : Int × List (Int × Int)) (s : Slab) (S : List Slab) : wfold x0 x1 q (s :: S) = wfold x0 x1 (wstep x0 x1 q s) S := rfl
theorem wfold_miss (x0 x1 : Int) : ∀ (S : List Slab) (q : Int × List (Int × Int)), (wfold x0 x1 q S).1 = q.1 - colsIn x0 x1 S := by
 intro S
 induction S with
 | nil => intro q; simp [wfold, colsIn]
 | cons s S ih =>
  intro q
  rw [wfold_cons, ih, colsIn]
  unfold wstep
  by_cases c : 0 < colW x0 x1 s
  ·rw [if_pos c, if_pos c]; simp only []; omega
  ·rw [if_neg c, if_neg c]; omega
theorem wfold_rows (x0 x1 : Int) : ∀ (S : List Slab) (q : Int × List (Int × Int)), (∀ s ∈ S, SlabOk s) → SpOk q.2 →
  SpOk (wfold x0 x1 q S).2 ∧ ∀ y, inS (wfold x0 x1 q S).2 y ↔ inS q.2 y ∧ ∀ s ∈ S, 0 < colW x0 x1 s → inT s.t y = true := by
 intro S
 induction S with
 | nil => intro q _ h; exact ⟨h, fun y => ⟨fun k => ⟨k, fun s hs => (by cases hs)⟩, fun k => k.1⟩⟩
 | cons s S ih =>
  intro q hS h
  rw [wfold_cons]
  have ks := hS s List.mem_cons_self
  unfold wstep
  by_cases c : 0 < colW x0 x1 s
  ·rw [if_pos c]
   have ht := twos_ok s.t ks.ev ks.asc
   obtain ⟨h1, h2⟩ := ih (q.1 - colW x0 x1 s, comS q.2 (twos s.t)) (fun z hz => hS z (List.mem_cons_of_mem _ hz)) (comS_ok h ht)
   refine ⟨h1, fun y => ?_⟩
   rw [h2 y]
   simp only []
   rw [comS_in h ht, twos_in ks.ev ks.asc]
   constructor
   ·rintro ⟨⟨k1, k2⟩, k3⟩
    refine ⟨k1, fun z hz hc => ?_⟩
    rcases List.mem_cons.1 hz with rfl | hz
    ·exact k2
    ·exact k3 z hz hc
   ·rintro ⟨k1, k3⟩
    exact ⟨⟨k1, k3 s List.mem_cons_self c⟩, fun z hz hc => k3 z (List.mem_cons_of_mem _ hz) hc⟩
  ·rw [if_neg c]
   obtain ⟨h1, h2⟩ := ih q (fun z hz => hS z (List.mem_cons_of_mem _ hz)) h
   refine ⟨h1, fun y => ?_⟩
   rw [h2 y]
   constructor
   ·rintro ⟨k1, k3⟩
    refine ⟨k1, fun z hz hc => ?_⟩
    rcases List.mem_cons.1 hz with rfl | hz
    ·exact absurd hc c
    ·exact k3 z hz hc
   ·rintro ⟨k1, k3⟩
    exact ⟨k1, fun z hz hc => k3 z (List.mem_cons_of_mem _ hz) hc⟩
theorem cols_move {x0 x1 m : Int} : ∀ {S : List Slab}, x0 ≤ m → (∀ s ∈ S, m ≤ s.x0) → colsIn x0 x1 S = colsIn m x1 S := by
 intro S
 induction S with
 | nil => intro _ _; rfl
 | cons s S ih =>
  intro h1 h2
  have := h2 s List.mem_cons_self
  have e : colW x0 x1 s = colW m x1 s := by unfold colW; omega
  rw [colsIn, colsIn, e, ih h1 (fun z hz => h2 z (List.mem_cons_of_mem _ hz))]
theorem cols_full : ∀ {S : List Slab} {x0 x1 : Int}, SlabsOk S → (colsIn x0 x1 S ≤ max 0 (x1 - x0)) ∧ (x0 ≤ x1 → (x1 - x0 ≤ colsIn x0 x1 S ↔ ∀ u, x0 ≤ u → u < x1 → ∃ s ∈ S, s.x0 ≤ u ∧ u < s.x1)) := by
 intro S
 induction S with
 | nil =>
  intro x0 x1 _
  refine ⟨by simp only [colsIn]; omega, fun hx => ?_⟩
  simp only [colsIn]
  constructor
  ·intro h u h1 h2; omega
  ·intro h
   rcases Int.lt_or_le x0 x1 with k | k
   ·obtain ⟨s, hs, _⟩ := h x0 (Int.le_refl _) k; cases hs
   ·omega
 | cons s S ih =>
  intro x0 x1 hS
  have hx := hS.head.x.2.1
  have haft := hS.after
  have htail := hS.tail
  rw [colsIn]
  by_cases c : s.x1 ≤ x0
  ·have e : ¬ 0 < colW x0 x1 s := by unfold colW; omega
   rw [if_neg e]
   obtain ⟨h1, h2⟩ := ih (x0 := x0) (x1 := x1) htail
   refine ⟨by omega, fun hx0 => ?_⟩
   rw [Int.zero_add, h2 hx0]
   constructor
   ·intro h u k1 k2
    obtain ⟨z, hz, k⟩ := h u k1 k2
    exact ⟨z, List.mem_cons_of_mem _ hz, k⟩
   ·intro h u k1 k2
    obtain ⟨z, hz, k⟩ := h u k1 k2
    rcases List.mem_cons.1 hz with rfl | hz
    ·omega
    ·exact ⟨z, hz, k⟩
  ·have mv : colsIn x0 x1 S = colsIn s.x1 x1 S := cols_move (by omega) haft
   obtain ⟨h1, h2⟩ := ih (x0 := s.x1) (x1 := x1) htail
   rw [mv]
   have hb : (if 0 < colW x0 x1 s then colW x0 x1 s else 0) = max 0 (min x1 s.x1 - max x0 s.x0) := by unfold colW; split <;> omega
   rw [hb]
   refine ⟨by omega, fun hx0 => ?_⟩
   constructor
   ·intro h u k1 k2
    by_cases q : u < s.x1
    ·exact ⟨s, List.mem_cons_self, by omega, q⟩
    ·obtain ⟨z, hz, k⟩ := (h2 (by omega)).1 (by omega) u (by omega) k2
     exact ⟨z, List.mem_cons_of_mem _ hz, k⟩
   ·intro h
    by_cases q : x0 < x1
    ·have h0 : s.x0 ≤ x0 := by
      obtain ⟨z, hz, k1, k2⟩ := h x0 (Int.le_refl _) q
      rcases List.mem_cons.1 hz with rfl | hz
      ·exact k1
      ·have := haft z hz; omega
     by_cases q2 : s.x1 ≤ x1
     ·have := (h2 q2).2 (fun u k1 k2 => by
       obtain ⟨z, hz, k⟩ := h u (by omega) k2
       rcases List.mem_cons.1 hz with rfl | hz
       ·omega
       ·exact ⟨z, hz, k⟩)
      omega
     ·have : 0 ≤ colsIn s.x1 x1 S := by
       have nn : ∀ (S : List Slab) (a b : Int), 0 ≤ colsIn a b S := by
        intro S a b
        induction S with
        | nil => simp [colsIn]
        | cons z S ih => rw [colsIn]; split <;> omega
       exact nn _ _ _
      omega
    ·have nn : ∀ (S : List Slab) (a b : Int), 0 ≤ colsIn a b S := by
      intro S a b
      induction S with
      | nil => simp [colsIn]
      | cons z S ih => rw [colsIn]; split <;> omega
     have := nn S s.x1 x1
     omega
def EroP (S : List Slab) (d x y : Int) : Prop := ∀ u v, x - d ≤ u → u ≤ x + d → y - d ≤ v → v ≤ y + d → HasS S u v
def rowsA (S : List Slab) (x d : Int) : List (Int × Int) :=
 if 0 < (wfold (x - d) (x + d + 1) (2 * d + 1, [(0, 1048576)]) S).1 then [] else insetS d (wfold (x - d) (x + d + 1) (2 * d + 1, [(0, 1048576)]) S).2
theorem slab_one : ∀ {S : List Slab}, SlabsOk S → ∀ s ∈ S, ∀ z ∈ S, ∀ u, s.x0 ≤ u → u < s.x1 → z.x0 ≤ u → u < z.x1 → s = z := by
 intro S
 induction S with
 | nil => intro _ s hs; cases hs
 | cons a S ih =>
  intro h s hs z hz u h1 h2 h3 h4
  rcases List.mem_cons.1 hs with e1 | hs1
  ·rcases List.mem_cons.1 hz with e2 | hz2
   ·rw [e1, e2]
   ·subst e1; have := h.after z hz2; omega
  ·rcases List.mem_cons.1 hz with e2 | hz2
   ·subst e2; have := h.after s hs1; omega
   ·exact ih h.tail s hs1 z hz2 u h1 h2 h3 h4
theorem inT_grid {t : List Int} (hc : SlabOk ⟨0, 1, t⟩ ∨ (Even t ∧ Asc t ∧ InG t)) {y : Int} (h : inT t y = true) : 0 ≤ y ∧ y < 1048576 := by
 have k : Even t ∧ Asc t ∧ InG t := by rcases hc with k | k; exact ⟨k.ev, k.asc, k.gr⟩; exact k
 obtain ⟨r, hr, hh⟩ := (rects_has (x0 := 0) (x1 := 1) (by unfold Span; omega) t k.1 k.2.1 k.2.2 0 y).2 ⟨Int.le_refl _, by omega, h⟩
 have := hh.1.2
 unfold Span at this
 have h2 := hh.2
 omega
theorem rowsA_is {S : List Slab} (hS : SlabsOk S) {d : Int} (hd : 0 ≤ d) (x : Int) : SpOk (rowsA S x d) ∧ ∀ y, inS (rowsA S x d) y ↔ EroP S d x y := by
 have h0 : SpOk [((0 : Int), (1048576 : Int))] := ⟨fun p hp => by rw [List.mem_singleton] at hp; subst hp; decide, List.pairwise_singleton _ _⟩
 have hm := wfold_miss (x - d) (x + d + 1) S (2 * d + 1, [(0, 1048576)])
 obtain ⟨hr1, hr2⟩ := wfold_rows (x - d) (x + d + 1) S (2 * d + 1, [(0, 1048576)]) hS.each h0
 have hf := (cols_full (x0 := x - d) (x1 := x + d + 1) hS).2 (by omega)
 unfold rowsA
 generalize wfold (x - d) (x + d + 1) (2 * d + 1, [(0, 1048576)]) S = q at *
 by_cases c : 0 < q.1
 ·rw [if_pos c]
  refine ⟨SpOk.nil, fun y => ⟨fun ⟨p, hp, _⟩ => (by cases hp), fun h => ?_⟩⟩
  exfalso
  have := hf.2 (fun u h1 h2 => by
   obtain ⟨s, hs, k1, k2, _⟩ := h u y (by omega) (by omega) (by omega) (by omega)
   exact ⟨s, hs, k1, k2⟩)
  simp only [] at hm
  omega
 ·rw [if_neg c]
  refine ⟨inset_ok hd hr1, fun y => ?_⟩
  rw [inset_in hd hr1]
  have cov := hf.1 (by simp only [] at hm; omega)
  constructor
  ·intro h u v h1 h2 h3 h4
   obtain ⟨s, hs, k1, k2⟩ := cov u h1 (by omega)
   have := ((hr2 v).1 (h v h3 h4)).2 s hs (by unfold colW; omega)
   exact ⟨s, hs, k1, k2, this⟩
  ·intro h v h3 h4
   rw [hr2 v]
   refine ⟨?_, fun s hs hc => ?_⟩
   ·obtain ⟨s, hs, k1, k2, k3⟩ := h x v (by omega) (by omega) h3 h4
    have ks := hS.each s hs
    have := inT_grid (Or.inr ⟨ks.ev, ks.asc, ks.gr⟩) k3
    exact ⟨_, List.mem_singleton.2 rfl, this.1, this.2⟩
   ·unfold colW at hc
    have hsx := (hS.each s hs).x.2.1
    obtain ⟨z, hz, k1, k2, k3⟩ := h (max (x - d) s.x0) v (by omega) (by omega) h3 h4
    have e := slab_one hS s hs z hz (max (x - d) s.x0) (by omega) (by omega) k1 k2
    rw [e]; exact k3
def chgS (S : List Slab) (d : Int) : List Int := S.flatMap fun s => [s.x0 + d, s.x1 - d]
theorem chg_mem {S : List Slab} {d z : Int} : z ∈ chgS S d ↔ ∃ s ∈ S, z = s.x0 + d ∨ z = s.x1 - d := by
 unfold chgS; rw [List.mem_flatMap]; simp
theorem ero_step {S : List Slab} {d x : Int} (hd : 0 ≤ d) (h : x ∉ chgS S d) (y : Int) : EroP S d x y ↔ EroP S d (x - 1) y := by
 constructor
 ·intro k u v h1 h2 h3 h4
  by_cases c : x - d ≤ u
  ·exact k u v c (by omega) h3 h4
  ·obtain ⟨s, hs, q1, q2, q3⟩ := k (x - d) v (by omega) (by omega) h3 h4
   have : s.x0 ≠ x - d := fun e => h (chg_mem.2 ⟨s, hs, Or.inl (by omega)⟩)
   exact ⟨s, hs, by omega, by omega, q3⟩
 ·intro k u v h1 h2 h3 h4
  by_cases c : u ≤ x - 1 + d
  ·exact k u v (by omega) c h3 h4
  ·obtain ⟨s, hs, q1, q2, q3⟩ := k (x - 1 + d) v (by omega) (by omega) h3 h4
   have : s.x1 ≠ x + d := fun e => h (chg_mem.2 ⟨s, hs, Or.inr (by omega)⟩)
   exact ⟨s, hs, by omega, by omega, q3⟩
theorem ero_flat {S : List Slab} {d a : Int} (hd : 0 ≤ d) : ∀ (n : Nat), (∀ z, a < z → z ≤ a + n → z ∉ chgS S d) → ∀ y, EroP S d (a + n) y ↔ EroP S d a y := by
 intro n
 induction n with
 | zero => intro _ y; rw [show a + ((0 : Nat) : Int) = a by omega]
 | succ n ih =>
  intro h y
  have e : a + ((n + 1 : Nat) : Int) - 1 = a + n := by omega
  rw [ero_step hd (h _ (by omega) (by omega)), e]
  exact ih (fun z h1 h2 => h z h1 (by omega)) y
theorem ero_first {S : List Slab} {d x y : Int} (hd : 0 ≤ d) (h : EroP S d x y) : ∃ z ∈ chgS S d, z ≤ x := by
 obtain ⟨s, hs, q1, _⟩ := h (x - d) y (by omega) (by omega) (by omega) (by omega)
 exact ⟨s.x0 + d, chg_mem.2 ⟨s, hs, Or.inl rfl⟩, by omega⟩
theorem ero_last {S : List Slab} {d x y : Int} (hd : 0 ≤ d) (h : EroP S d x y) : ∃ z ∈ chgS S d, x < z := by
 obtain ⟨s, hs, _, q2, _⟩ := h (x + d) y (by omega) (by omega) (by omega) (by omega)
 exact ⟨s.x1 - d, chg_mem.2 ⟨s, hs, Or.inr rfl⟩, by omega⟩
theorem ero_grid {S : List Slab} (hS : SlabsOk S) {d x y : Int} (hd : 0 ≤ d) (h : EroP S d x y) : 0 ≤ x ∧ x < 1048576 ∧ 0 ≤ y ∧ y < 1048576 := by
 obtain ⟨s, hs, q1, q2, q3⟩ := h x y (by omega) (by omega) (by omega) (by omega)
 have ks := hS.each s hs
 have k1 := ks.x
 have k2 := inT_grid (Or.inr ⟨ks.ev, ks.asc, ks.gr⟩) q3
 unfold Span at k1
 omega
structure EroAt (S : List Slab) (d a : Int) (T : List Slab) (last : List (Int × Int)) : Prop where
 grown : Grown T a
 has : ∀ x y, x < a → (HasS T x y ↔ EroP S d x y)
 at_ : FormAt T (unt last) a
 sp : SpOk last
theorem EroAt.start {S : List Slab} {d a : Int} (hd : 0 ≤ d) (h : ∀ z ∈ chgS S d, a ≤ z) : EroAt S d a [] [] :=
 ⟨⟨trivial, fun s hs => (by cases hs)⟩, fun x y hx => ⟨fun ⟨s, hs, _⟩ => (by cases hs), fun k => by obtain ⟨z, hz, q⟩ := ero_first hd k; have := h z hz; omega⟩, formAt_start a, SpOk.nil⟩
theorem rows_col {S : List Slab} (hS : SlabsOk S) {d : Int} (hd : 0 ≤ d) (a : Int) : ColOk (unt (rowsA S a d)) ∧ ∀ y, inT (unt (rowsA S a d)) y = true ↔ EroP S d a y := by
 obtain ⟨h1, h2⟩ := rowsA_is hS hd a
 refine ⟨⟨unt_asc h1, unt_even _, fun z hz => ?_⟩, fun y => by rw [unt_in h1, h2]⟩
 obtain ⟨p, hp, e⟩ := unt_mem hz
 have hp1 := h1.1 p hp
 have k1 := ero_grid hS hd ((h2 p.1).1 ⟨p, hp, Int.le_refl _, hp1⟩)
 have k2 := ero_grid hS hd ((h2 (p.2 - 1)).1 ⟨p, hp, by omega, by omega⟩)
 rcases e with rfl | rfl <;> omega
theorem EroAt.step {S T : List Slab} (hS : SlabsOk S) {d a b : Int} {last : List (Int × Int)} (hd : 0 ≤ d) (h : EroAt S d a T last) (hab : a < b) (hno : ∀ z, a < z → z < b → z ∉ chgS S d) :
  EroAt S d b (stepF T a b (unt (rowsA S a d))) (rowsA S a d) ∧ (∀ x y, HasS (stepF T a b (unt (rowsA S a d))) x y → x < b) := by
 obtain ⟨hc, hin⟩ := rows_col hS hd a
 obtain ⟨hsp, _⟩ := rowsA_is hS hd a
 generalize hR : rowsA S a d = R at *
 have flat : ∀ x y, a ≤ x → x < b → (EroP S d x y ↔ EroP S d a y) := fun x y h1 h2 => by
  have := ero_flat (S := S) (a := a) hd (x - a).toNat (fun z k1 k2 => hno z k1 (by omega)) y
  rwa [show a + ((x - a).toNat : Int) = x by omega] at this
 have hgr : Grown (stepF T a b (unt R)) b ∧ ∀ x y, HasS (stepF T a b (unt R)) x y ↔ HasS T x y ∨ (a ≤ x ∧ x < b ∧ inT (unt R) y = true) := by
  by_cases c : unt R = []
  ·rw [c]
   have e : stepF T a b [] = T := by unfold stepF; rw [if_pos rfl]
   rw [e]
   exact ⟨⟨h.grown.ok, fun s hs => by have := h.grown.to s hs; omega⟩, fun x y => by simp [inT_nil]⟩
  ·obtain ⟨y, _, hy⟩ := col_some hc.asc c
   have k1 := ero_grid hS hd ((hin y).1 hy)
   have k2 := ero_grid hS hd ((flat (b - 1) y (by omega) (by omega)).2 ((hin y).1 hy))
   exact step_is h.grown ⟨by omega, hab, by omega⟩ hc
 have hlt : ∀ x y, HasS (stepF T a b (unt R)) x y → x < b := fun x y ⟨s, hs, q1, q2, _⟩ => by have := hgr.1.to s hs; omega
 refine ⟨⟨hgr.1, fun x y hx => ?_, ?_, hsp⟩, hlt⟩
 ·rw [hgr.2 x y]
  by_cases c : x < a
  ·rw [h.has x y c]
   constructor
   ·rintro (q | q)
    ·exact q
    ·omega
   ·exact Or.inl
  ·rw [flat x y (by omega) hx, ← hin y]
   constructor
   ·rintro (⟨s, hs, q1, q2, _⟩ | q)
    ·have := h.grown.to s hs; omega
    ·exact q.2.2
   ·intro q; exact Or.inr ⟨by omega, hx, q⟩
 ·by_cases c : unt R = unt last
  ·by_cases c0 : unt R = []
   ·exact (step_new h.at_ hab h.grown (Or.inl c0)).2.2
   ·rw [c]
    obtain ⟨_, _, _, _, _, _, _, _, k⟩ := step_wide (b := b) h.at_ (c ▸ c0)
    exact k
  ·exact (step_new h.at_ hab h.grown (Or.inr c)).2.2
theorem EroAt.done {S T : List Slab} {d a : Int} {last : List (Int × Int)} (hd : 0 ≤ d) (h : EroAt S d a T last) (ha : ∀ z ∈ chgS S d, z ≤ a) : IsForm (flatS T) ∧ ∀ x y, HasL (flatS T) x y ↔ EroP S d x y := by
 refine ⟨⟨T, h.grown.ok, rfl⟩, fun x y => ?_⟩
 rw [flat_has h.grown.ok]
 by_cases c : x < a
 ·exact h.has x y c
 ·constructor
  ·rintro ⟨s, hs, q1, q2, _⟩; have := h.grown.to s hs; omega
  ·intro k; obtain ⟨z, hz, q⟩ := ero_last hd k; have := ha z hz; omega
end Go.Proofs.YtngddecpfhlilaaGreat
namespace Go.Proofs.YtngddecpfhlilaaGreat
structure FSet (F : List Rc) (S : Int → Int → Prop) : Prop where
 form : IsForm F
 cells : ∀ x y, HasL F x y ↔ S x y
theorem FSet.eq {F G : List Rc} {S T : Int → Int → Prop} (h : FSet F S) (k : FSet G T) (e : ∀ x y, S x y ↔ T x y) : F = G := form_eq h.form k.form (fun x y => by rw [h.cells, k.cells, e])
theorem FSet.ok {F : List Rc} {S : Int → Int → Prop} (h : FSet F S) : ∀ r ∈ F, ROk r := form_ok h.form
def Within (d x y u v : Int) : Prop := u - d ≤ x ∧ x ≤ u + d ∧ v - d ≤ y ∧ y ≤ v + d
def InGrid (x y : Int) : Prop := 0 ≤ x ∧ x < 1048576 ∧ 0 ≤ y ∧ y < 1048576
def GroP (C : Int → Int → Prop) (d x y : Int) : Prop := InGrid x y ∧ ∃ u v, C u v ∧ Within d x y u v
def EroL (C : Int → Int → Prop) (d x y : Int) : Prop := ∀ u v, x - d ≤ u → u ≤ x + d → y - d ≤ v → v ≤ y + d → C u v
def grownL (l : List Rc) (d : Int) : List Rc := l.map fun r => grownR r d
theorem grownL_ok {l : List Rc} {d : Int} (hl : ∀ r ∈ l, ROk r) (hd : 0 ≤ d) : ∀ r ∈ grownL l d, ROk r := fun r hr => by
 obtain ⟨q, hq, rfl⟩ := List.mem_map.1 hr
 exact grown_ok (hl q hq) hd
theorem grownR_has {r : Rc} {d : Int} (hr : ROk r) (hd : 0 ≤ d) (x y : Int) : HasR (grownR r d) x y ↔ InGrid x y ∧ ∃ u v, HasR r u v ∧ Within d x y u v := by
 have k := grown_ok hr hd
 constructor
 ·rintro ⟨k1, h1, h2, h3, h4⟩
  simp only [grownR] at h1 h2 h3 h4
  have hr2 := hr
  unfold ROk Span at hr2
  refine ⟨by unfold InGrid; omega, min (max x r.X0) (r.X1 - 1), min (max y r.Y0) (r.Y1 - 1), ⟨hr, by omega, by omega, by omega, by omega⟩, ?_⟩
  unfold Within; omega
 ·rintro ⟨h1, u, v, ⟨_, h2, h3, h4, h5⟩, h6⟩
  unfold InGrid at h1; unfold Within at h6
  refine ⟨k, ?_⟩
  simp only [grownR]; omega
theorem grown_has {l : List Rc} {d : Int} (hl : ∀ r ∈ l, ROk r) (hd : 0 ≤ d) (x y : Int) : HasL (grownL l d) x y ↔ GroP (HasL l) d x y := by
 constructor
 ·rintro ⟨q, hq, h⟩
  obtain ⟨r, hr, rfl⟩ := List.mem_map.1 hq
  obtain ⟨h1, u, v, h2, h3⟩ := (grownR_has (hl r hr) hd x y).1 h
  exact ⟨h1, u, v, ⟨r, hr, h2⟩, h3⟩
 ·rintro ⟨h1, u, v, ⟨r, hr, h2⟩, h3⟩
  exact ⟨_, List.mem_map.2 ⟨r, hr, rfl⟩, (grownR_has (hl r hr) hd x y).2 ⟨h1, u, v, h2, h3⟩⟩
def holesL (l : List Rc) : List Rc := formO andnot [(boundsR l).1] l
def eroF (l : List Rc) (d : Int) : List Rc :=
 if (boundsR l).2 then (if (shrinkR (boundsR l).1 d).2 then formO andnot [(shrinkR (boundsR l).1 d).1] (grownL (holesL l) d) else []) else []
theorem bounds_all {l : List Rc} (hl : ∀ r ∈ l, ROk r) (hne : l ≠ []) : (boundsR l).2 = true ∧ ROk (boundsR l).1 ∧ ∀ x y, HasL l x y → HasR (boundsR l).1 x y := by
 have key : ∀ n (l : List Rc), l.length = n → (∀ r ∈ l, ROk r) → l ≠ [] → (boundsR l).2 = true ∧ ROk (boundsR l).1 ∧ ∀ x y, HasL l x y → HasR (boundsR l).1 x y := by
  intro n
  induction n with
  | zero => intro l h _ hne; exact absurd (List.length_eq_zero_iff.1 h) hne
  | succ n ih =>
   intro l hn hl hne
   rcases List.eq_nil_or_concat l with rfl | ⟨m, r, rfl⟩
   ·exact absurd rfl hne
   ·rw [List.concat_eq_append] at *
    have hr := hl r (by simp)
    rw [bounds_snoc]
    unfold boundsStep
    rw [if_pos hr]
    by_cases hm : m = []
    ·subst hm
     refine ⟨rfl, hr, fun x y => ?_⟩
     rintro ⟨q, hq, h⟩
     rw [List.nil_append, List.mem_singleton] at hq
     subst hq; exact h
    ·obtain ⟨h1, h2, h3⟩ := ih m (by simp at hn; omega) (fun q hq => hl q (List.mem_append_left _ hq)) hm
     rw [if_pos h1]
     refine ⟨rfl, hull_ok h2 hr, fun x y => ?_⟩
     rintro ⟨q, hq, h⟩
     have ho := hull_ok h2 hr
     rcases List.mem_append.1 hq with hq | hq
     ·have := (h3 x y ⟨q, hq, h⟩).2
      refine ⟨ho, ?_⟩
      simp only [hullR]; omega
     ·rw [List.mem_singleton] at hq; subst hq
      have := h.2
      refine ⟨ho, ?_⟩
      simp only [hullR]; omega
 exact key _ l rfl hl hne
theorem has_one {r : Rc} {x y : Int} : HasL [r] x y ↔ HasR r x y := ⟨fun ⟨q, hq, h⟩ => by rw [List.mem_singleton] at hq; subst hq; exact h, fun h => ⟨r, List.mem_singleton.2 rfl, h⟩⟩
theorem not_is {a b : List Rc} (ha : ∀ r ∈ a, ROk r) (hb : ∀ r ∈ b, ROk r) : FSet (formO andnot a b) (fun x y => HasL a x y ∧ ¬ HasL b x y) := by
 obtain ⟨h1, h2⟩ := formO_is (op := andnot) rfl ha hb
 refine ⟨h1, fun x y => ?_⟩
 rw [h2 x y]
 have k1 := hasB_iff a x y; have k2 := hasB_iff b x y
 cases h3 : hasB a x y <;> cases h4 : hasB b x y <;> rw [h3] at k1 <;> rw [h4] at k2 <;> simp_all [andnot]
theorem nil_is : FSet [] (fun _ _ => False) := ⟨⟨[], trivial, rfl⟩, fun x y => ⟨fun ⟨r, hr, _⟩ => (by cases hr), fun h => h.elim⟩⟩
theorem eroF_is {l : List Rc} {d : Int} (hl : ∀ r ∈ l, ROk r) (hd : 0 ≤ d) : FSet (eroF l d) (EroL (HasL l) d) := by
 by_cases hne : l = []
 ·subst hne
  have e : eroF [] d = [] := by unfold eroF; rw [show (boundsR []).2 = false from rfl]; rfl
  rw [e]
  refine ⟨nil_is.form, fun x y => ?_⟩
  rw [nil_is.cells]
  refine ⟨fun h => h.elim, fun h => ?_⟩
  obtain ⟨r, hr, _⟩ := h x y (by omega) (by omega) (by omega) (by omega)
  cases hr
 ·obtain ⟨h1, h2, h3⟩ := bounds_all hl hne
  unfold eroF holesL
  rw [if_pos h1]
  generalize (boundsR l).1 = b at *
  have hh := not_is (a := [b]) (b := l) (fun r hr => by rw [List.mem_singleton] at hr; subst hr; exact h2) hl
  generalize formO andnot [b] l = H at *
  by_cases c : ROk (shrunkR b d)
  ·have e : shrinkR b d = (shrunkR b d, true) := by unfold shrinkR; rw [if_pos ⟨h2, hd, c⟩]
   rw [e, if_pos rfl]
   have ho := not_is (a := [shrunkR b d]) (b := grownL H d) (fun r hr => by rw [List.mem_singleton] at hr; subst hr; exact c) (grownL_ok hh.ok hd)
   refine ⟨ho.form, fun x y => ?_⟩
   rw [ho.cells, has_one, grown_has hh.ok hd]
   constructor
   ·rintro ⟨⟨_, k1⟩, k2⟩ u v q1 q2 q3 q4
    simp only [shrunkR] at k1
    have hb : HasR b u v := ⟨h2, by omega, by omega, by omega, by omega⟩
    have hb2 := h2
    unfold ROk Span at hb2
    refine Classical.byContradiction fun hn => k2 ⟨by unfold InGrid; omega, u, v, (hh.cells u v).2 ⟨has_one.2 hb, hn⟩, by unfold Within; omega⟩
   ·intro k
    refine ⟨⟨c, ?_⟩, ?_⟩
    ·have k1 := (h3 _ _ (k (x - d) (y - d) (by omega) (by omega) (by omega) (by omega))).2
     have k2 := (h3 _ _ (k (x + d) (y + d) (by omega) (by omega) (by omega) (by omega))).2
     simp only [shrunkR]; omega
    ·rintro ⟨_, u, v, q1, q2⟩
     unfold Within at q2
     exact ((hh.cells u v).1 q1).2 (k u v (by omega) (by omega) (by omega) (by omega))
  ·have e : shrinkR b d = (zR, false) := by unfold shrinkR; rw [if_neg (fun q => c q.2.2)]
   rw [e, if_neg (by simp)]
   refine ⟨nil_is.form, fun x y => ?_⟩
   rw [nil_is.cells]
   refine ⟨fun h => h.elim, fun k => c ?_⟩
   have k1 := (h3 _ _ (k (x - d) (y - d) (by omega) (by omega) (by omega) (by omega))).2
   have k2 := (h3 _ _ (k (x + d) (y + d) (by omega) (by omega) (by omega) (by omega))).2
   unfold ROk Span at h2 ⊢
   simp only [shrunkR]; omega
theorem ero_slabs {S : List Slab} (hS : SlabsOk S) (d x y : Int) : EroL (HasL (flatS S)) d x y ↔ EroP S d x y := by unfold EroL EroP; simp only [flat_has hS]
theorem ero_end {S T : List Slab} (hS : SlabsOk S) {d : Int} (hd : 0 ≤ d) (hT : IsForm (flatS T) ∧ ∀ x y, HasL (flatS T) x y ↔ EroP S d x y) : flatS T = eroF (flatS S) d :=
 FSet.eq ⟨hT.1, hT.2⟩ (eroF_is (form_ok ⟨S, hS, rfl⟩) hd) (fun x y => (ero_slabs hS d x y).symm)
def gapRow (r : Rc) (b : List Rc) (m : Int) : Int := b.foldl (fun m s => min m (gapR r s)) m
def gapL (a b : List Rc) (m : Int) : Int := a.foldl (fun m r => gapRow r b m) m
theorem gapRow_snoc (r : Rc) (b : List Rc) (s : Rc) (m : Int) : gapRow r (b ++ [s]) m = min (gapRow r b m) (gapR r s) := by simp [gapRow, List.foldl_append]
theorem gapL_snoc (a b : List Rc) (r : Rc) (m : Int) : gapL (a ++ [r]) b m = gapRow r b (gapL a b m) := by simp [gapL, List.foldl_append]
theorem gapRow_le (r : Rc) (d : Int) : ∀ (b : List Rc) (m : Int), gapRow r b m ≤ d ↔ m ≤ d ∨ ∃ s ∈ b, gapR r s ≤ d := by
 intro b
 induction b with
 | nil => intro m; simp [gapRow]
 | cons s b ih =>
  intro m
  have e : gapRow r (s :: b) m = gapRow r b (min m (gapR r s)) := rfl
  rw [e, ih]
  simp only [List.mem_cons, exists_eq_or_imp]
  constructor
  ·rintro (h | h)
   ·rcases Int.le_total m (gapR r s) with k | k
    ·exact Or.inl (by omega)
    ·exact Or.inr (Or.inl (by omega))
   ·exact Or.inr (Or.inr h)
  ·rintro (h | h | h)
   ·exact Or.inl (by omega)
   ·exact Or.inl (by omega)
   ·exact Or.inr h
theorem gapL_le (d : Int) (b : List Rc) : ∀ (a : List Rc) (m : Int), gapL a b m ≤ d ↔ m ≤ d ∨ ∃ r ∈ a, ∃ s ∈ b, gapR r s ≤ d := by
 intro a
 induction a with
 | nil => intro m; simp [gapL]
 | cons r a ih =>
  intro m
  have e : gapL (r :: a) b m = gapL a b (gapRow r b m) := rfl
  rw [e, ih, gapRow_le]
  simp only [List.mem_cons, exists_eq_or_imp]
  exact or_assoc
theorem eq_of_le {a b : Int} (h : ∀ d, a ≤ d ↔ b ≤ d) : a = b := by
 have h1 := (h b).2 (Int.le_refl _); have h2 := (h a).1 (Int.le_refl _); omega
theorem gapL_comm (a b : List Rc) (m : Int) : gapL a b m = gapL b a m := eq_of_le fun d => by
 rw [gapL_le, gapL_le]
 constructor
 ·rintro (h | ⟨r, hr, s, hs, h⟩)
  ·exact Or.inl h
  ·exact Or.inr ⟨s, hs, r, hr, by rw [gap_comm]; exact h⟩
 ·rintro (h | ⟨r, hr, s, hs, h⟩)
  ·exact Or.inl h
  ·exact Or.inr ⟨s, hs, r, hr, by rw [gap_comm]; exact h⟩
end Go.Proofs.YtngddecpfhlilaaGreat
namespace Go.Proofs.YtngddecpfhlilaaGreat
theorem asc_snoc {l : List Int} {x : Int} (h : Asc l) (hx : ∀ z ∈ l, z < x) : Asc (l ++ [x]) := by
 induction l with
 | nil => trivial
 | cons a l ih =>
  rw [List.cons_append]
  refine (ih h.tail (fun z hz => hx z (List.mem_cons_of_mem _ hz))).cons (fun z hz => ?_)
  rcases List.mem_append.1 hz with hz | hz
  ·exact h.lt z hz
  ·rw [List.mem_singleton] at hz; subst hz; exact hx a List.mem_cons_self
def SrtN (S : List Int) : Prop := ∀ i j (hi : i < S.length) (hj : j < S.length), i ≤ j → S[i] ≤ S[j]
theorem compact_is {S : List Int} (hs : SrtN S) : Asc (Lib.compact S) ∧ (∀ z, z ∈ Lib.compact S ↔ z ∈ S) ∧ (Lib.compact S).length ≤ S.length := by
 have at_ : ∀ j (h : j < S.length), S.toArray[j]! = S[j] := fun j h => by rw [getElem!_pos _ j (by simpa using h)]; simp
 have key : ∀ m, m ≤ S.length → Asc (Lib.compactUpTo S.toArray m) ∧ (∀ z ∈ Lib.compactUpTo S.toArray m, ∃ j, ∃ h : j < S.length, j < m ∧ S[j] = z) ∧ (∀ j (h : j < S.length), j < m → S[j] ∈ Lib.compactUpTo S.toArray m) ∧ (Lib.compactUpTo S.toArray m).length ≤ m := by
  intro m
  induction m with
  | zero => intro _; exact ⟨trivial, fun z hz => (by cases hz), fun j _ h => absurd h (Nat.not_lt_zero _), Nat.zero_le _⟩
  | succ m ih =>
   intro hm
   obtain ⟨h1, h2, h3, h4⟩ := ih (by omega)
   rw [Lib.compactUpTo_succ]
   have em := at_ m (by omega)
   by_cases k : Lib.keeps S.toArray m = true
   ·rw [if_pos k, em]
    refine ⟨asc_snoc h1 (fun z hz => ?_), fun z hz => ?_, fun j hj hjm => ?_, by rw [List.length_append, List.length_singleton]; omega⟩
    ·obtain ⟨j, hj, hjm, rfl⟩ := h2 z hz
     have k2 : m = 0 ∨ S.toArray[m]! ≠ S.toArray[m - 1]! := by unfold Lib.keeps at k; exact of_decide_eq_true k
     rcases k2 with k2 | k2
     ·omega
     ·rw [em, at_ (m - 1) (by omega)] at k2
      have a1 := hs (m - 1) m (by omega) (by omega) (by omega)
      have a2 := hs j (m - 1) hj (by omega) (by omega)
      omega
    ·rcases List.mem_append.1 hz with hz | hz
     ·obtain ⟨j, hj, hjm, e⟩ := h2 z hz
      exact ⟨j, hj, by omega, e⟩
     ·rw [List.mem_singleton] at hz
      exact ⟨m, by omega, by omega, hz.symm⟩
    ·by_cases e : j < m
     ·exact List.mem_append_left _ (h3 j hj e)
     ·obtain rfl : j = m := by omega
      exact List.mem_append_right _ (List.mem_singleton.2 rfl)
   ·rw [if_neg k, List.append_nil]
    refine ⟨h1, fun z hz => ?_, fun j hj hjm => ?_, by omega⟩
    ·obtain ⟨j, hj, hjm, e⟩ := h2 z hz
     exact ⟨j, hj, by omega, e⟩
    ·by_cases e : j < m
     ·exact h3 j hj e
     ·obtain rfl : j = m := by omega
      have k2 : ¬ (j = 0 ∨ S.toArray[j]! ≠ S.toArray[j - 1]!) := by unfold Lib.keeps at k; simpa using k
      have k3 : j ≠ 0 := fun q => k2 (Or.inl q)
      have k4 : S.toArray[j]! = S.toArray[j - 1]! := Classical.byContradiction fun q => k2 (Or.inr q)
      rw [em, at_ (j - 1) (by omega)] at k4
      rw [k4]
      exact h3 (j - 1) (by omega) (by omega)
 obtain ⟨h1, h2, h3, h4⟩ := key S.length (Nat.le_refl _)
 refine ⟨h1, fun z => ⟨fun hz => ?_, fun hz => ?_⟩, h4⟩
 ·obtain ⟨j, hj, _, rfl⟩ := h2 z hz; exact List.getElem_mem hj
 ·obtain ⟨j, hj, rfl⟩ := List.mem_iff_getElem.1 hz; exact h3 j hj hj
structure XsOf (S : List Slab) (d : Int) (X : List Int) : Prop where
 asc : Asc X
 mem : ∀ z, z ∈ X ↔ z ∈ chgS S d
theorem asc_lt : ∀ {t : List Int}, Asc t → ∀ {i j : Nat} (hi : i < t.length) (hj : j < t.length), i < j → t[i] < t[j] := by
 intro t
 induction t with
 | nil => intro _ i j hi; simp at hi
 | cons a t ih =>
  intro ha i j hi hj hij
  cases j with
  | zero => omega
  | succ j =>
   cases i with
   | zero => simp only [List.getElem_cons_zero, List.getElem_cons_succ]; exact ha.lt _ (List.getElem_mem _)
   | succ i => simp only [List.getElem_cons_succ]; exact ih ha.tail (by simpa using hi) (by simpa using hj) (by omega)
theorem XsOf.start {S : List Slab} {d : Int} {X : List Int} (h : XsOf S d X) (hd : 0 ≤ d) (h0 : 0 < X.length) : EroAt S d X[0] [] [] :=
 EroAt.start hd (fun z hz => by
  obtain ⟨j, hj, rfl⟩ := List.mem_iff_getElem.1 ((h.mem z).2 hz)
  by_cases e : j = 0
  ·subst e; exact Int.le_refl _
  ·have := asc_lt h.asc h0 hj (by omega); omega)
theorem XsOf.step {S T : List Slab} {d : Int} {X : List Int} {last : List (Int × Int)} (hS : SlabsOk S) (h : XsOf S d X) (hd : 0 ≤ d) {i : Nat} (hi : i + 1 < X.length) (k : EroAt S d X[i] T last) :
  EroAt S d X[i + 1] (stepF T X[i] X[i + 1] (unt (rowsA S X[i] d))) (rowsA S X[i] d) :=
 (k.step hS hd (asc_lt h.asc (by omega) hi (by omega)) (fun z h1 h2 hz => by
  obtain ⟨j, hj, rfl⟩ := List.mem_iff_getElem.1 ((h.mem z).2 hz)
  rcases Nat.lt_or_ge i j with e | e
  ·rcases Nat.lt_or_ge j (i + 1) with e2 | e2
   ·omega
   ·rcases Nat.lt_or_ge (i + 1) j with e3 | e3
    ·have := asc_lt h.asc hi hj e3; omega
    ·obtain rfl : j = i + 1 := by omega
     omega
  ·rcases Nat.lt_or_ge j i with e2 | e2
   ·have := asc_lt h.asc hj (show i < X.length by omega) e2; omega
   ·obtain rfl : j = i := by omega
    omega)).1
theorem XsOf.done {S T : List Slab} {d : Int} {X : List Int} {last : List (Int × Int)} (hS : SlabsOk S) (h : XsOf S d X) (hd : 0 ≤ d) (h0 : 0 < X.length) (k : EroAt S d (X[X.length - 1]'(by omega)) T last) : flatS T = eroF (flatS S) d :=
 ero_end hS hd (k.done hd (fun z hz => by
  obtain ⟨j, hj, rfl⟩ := List.mem_iff_getElem.1 ((h.mem z).2 hz)
  rcases Nat.lt_or_ge j (X.length - 1) with e | e
  ·have := asc_lt h.asc hj (show X.length - 1 < X.length by omega) e; omega
  ·obtain rfl : j = X.length - 1 := by omega
   exact Int.le_refl _))
theorem XsOf.none {S : List Slab} {d : Int} {X : List Int} (hS : SlabsOk S) (h : XsOf S d X) (h0 : X.length = 0) : S = [] := by
 cases S with
 | nil => rfl
 | cons s S =>
  have := (h.mem (s.x0 + d)).2 (chg_mem.2 ⟨s, List.mem_cons_self, Or.inl rfl⟩)
  rw [List.length_eq_zero_iff.1 h0] at this; cases this
end Go.Proofs.YtngddecpfhlilaaGreat
