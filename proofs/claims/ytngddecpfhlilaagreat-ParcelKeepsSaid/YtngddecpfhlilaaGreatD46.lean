/-
  Near (layer 13): what the lots near a lot are. No program in this text.
  Lots (layer 13): lists of lots that were handed in: their lists may be of whatever length until Few says yes.
  Openings of lots that were handed in.
  Lots (layer 13): what the program's operations tell, in the words of the chapter. No program in this text.
-/
import Derived.Test.YtngddecpfhlilaaGreatD37
import Derived.Test.YtngddecpfhlilaaGreatD28
import Derived.Test.YtngddecpfhlilaaGreatD42
import Derived.Test.YtngddecpfhlilaaGreatD41
import Derived.Test.YtngddecpfhlilaaGreatD26
import Derived.Test.YtngddecpfhlilaaGreatD38
import Derived.Test.YtngddecpfhlilaaGreatD29
set_option linter.unusedVariables false
set_option maxRecDepth 100000
namespace Go.Proofs.YtngddecpfhlilaaGreat
open Go.RowKit
structure LtOI (w : World) (t : Lt) (p : LtP) : Prop where
 ar : RRow w p.A t.ar
 al : t.ar.length ≤ p.c
 ac : p.c ≤ 9223372036854775807
 fr : IRow w p.B t.fr
 bl : t.fr.length ≤ p.d
 bc : p.d ≤ 9223372036854775807
 an : p.A = none → p.c = 0
 bn : p.B = none → p.d = 0
theorem LtOI.below {w w' : World} {t : Lt} {p : LtP} (h : LtOI w t p) (hb : Below w.heap.size w w') : LtOI w' t p := ⟨h.ar.below hb, h.al, h.ac, h.fr.below hb, h.bl, h.bc, h.an, h.bn⟩
def LtORow (w : World) (A : Option Addr) (L : List Lt) : Prop := 0 < L.length → ∃ b off, A = some ⟨b, off, none⟩ ∧ b < w.heap.size ∧ ∀ j (h : j < L.length), ∃ p, LtC w b (off + j * 4) L[j] p ∧ LtOI w L[j] p
structure LtO (w : World) (A : Option Addr) (cap : Nat) (L : List Lt) : Prop where
 row : LtORow w A L
 room : L.length ≤ cap
 room2 : cap ≤ 9223372036854775807
theorem LtO.len {w : World} {A : Option Addr} {cap : Nat} {L : List Lt} (h : LtO w A cap L) : L.length ≤ 9223372036854775807 := Nat.le_trans h.room h.room2
theorem LtO.below {w w' : World} {A : Option Addr} {cap : Nat} {L : List Lt} (h : LtO w A cap L) (hb : Below w.heap.size w w') : LtO w' A cap L := ⟨fun h0 => by
 obtain ⟨b, off, e, hl, hc⟩ := h.row h0
 refine ⟨b, off, e, Nat.lt_of_lt_of_le hl hb.size, fun j hj => ?_⟩
 obtain ⟨p, hp, hi⟩ := hc j hj
 exact ⟨p, hp.below hl hb, hi.below hb⟩, h.room, h.room2⟩
theorem LtO.fut {w : World} {A : Option Addr} {c : Nat} {L : List Lt} (h : LtO w A c L) : Fut w (fun w' => LtO w' A c L) := fun w' hb => h.below hb
theorem LtO.at_ {w : World} {A : Option Addr} {cap : Nat} {L : List Lt} (h : LtO w A cap L) {j : Nat} (hj : j < L.length) : ∃ b off p, A = some ⟨b, off, none⟩ ∧ b < w.heap.size ∧ LtC w b (off + j * 4) L[j] p ∧ LtOI w L[j] p := by
 obtain ⟨b, off, e, hl, hc⟩ := h.row (by omega)
 obtain ⟨p, hp, hi⟩ := hc j hj
 exact ⟨b, off, p, e, hl, hp, hi⟩
theorem few_len {L : List Lt} (h : fewB L = true) : L.length ≤ 12 ∧ ∀ t ∈ L, t.ar.length ≤ 20 ∧ t.fr.length ≤ 30 := by
 unfold fewB at h
 rw [Bool.and_eq_true, List.all_eq_true] at h
 refine ⟨by simpa using h.2, fun t ht => ?_⟩
 have := h.1 t ht
 simpa using this
theorem LtO.few {w : World} {A : Option Addr} {cap : Nat} {L : List Lt} (h : LtO w A cap L) (hf : fewB L = true) : LtIn w A cap L := by
 obtain ⟨h1, h2⟩ := few_len hf
 refine ⟨fun h0 => ?_, by omega, h.room, h.room2⟩
 obtain ⟨b, off, e, hl, hc⟩ := h.row h0
 refine ⟨b, off, e, hl, fun j hj => ?_⟩
 obtain ⟨p, hp, hi⟩ := hc j hj
 obtain ⟨g1, g2⟩ := h2 _ (List.getElem_mem hj)
 exact ⟨p, hp, ⟨⟨hi.ar, by omega, hi.al, hi.ac⟩, ⟨hi.fr, by omega, hi.bl, hi.bc⟩, hi.an, hi.bn⟩⟩
end Go.Proofs.YtngddecpfhlilaaGreat
namespace Go.Proofs.YtngddecpfhlilaaGreat
open Go.RowKit Go.ChangeShapes Go.WideShapes Go.ChangeAt Go.Joins Go.Deep
section
variable {H : Type} {enc : TypeId × Value → H} {w : World} {held : Bool}
theorem irow_of_cells {a : Addr} (xs : List Int) (hx : ∀ i (h : i < xs.length), w.cell? (a.add i) = some (.int .i64 xs[i])) : IRow w (some a) xs := fun hn => by
 obtain ⟨b, off, spot⟩ := a
 have h0 := hx 0 hn
 have hspot : spot = none := by simpa [Addr.add] using World.cell?_spot h0
 subst hspot
 refine ⟨b, off, rfl, ?_, fun j hj => ?_⟩
 ·have := World.block_lt_of_cell? w _ h0
  rw [add_at] at this
  exact this
 ·have := hx j hj
  rw [add_at] at this
  exact this
theorem open_irow {n : Nat} {v : Value} {y : DataW H × List MemPlace} (h : DataW.trod enc Tryz.prog w 0 (fun _ => true) held n 31 [v] = some y) :
  ∃ (A : Option Addr) (c : Nat) (l : List Int), v = .slice A l.length c ∧ (A = none → c = 0) ∧ IRow w A l ∧ l.length ≤ c ∧ c ≤ 9223372036854775807 := by
 rcases open_ints Tryz.underlying31 Tryz.underlying3 (by kernel_rfl) h with ⟨hcs, _⟩ | ⟨a, len, cap, zs, hcs, _, hl, hm, hz, _, hcell, hwz⟩
 ·obtain rfl : v = .slice none 0 0 := by simpa using hcs
  exact ⟨none, 0, [], rfl, (fun _ => rfl), (fun h => absurd h (by simp)), by simp, by omega⟩
 ·obtain rfl : v = .slice (some a) len cap := by simpa using hcs
  simp at hz
  have hlen : (zs.take len).length = len := by simp; omega
  refine ⟨some a, cap, zs.take len, by rw [hlen], (fun h => nomatch h), irow_of_cells _ (fun i hi => ?_), by rw [hlen]; omega, by unfold maxLen at hm; omega⟩
  have hi2 : i < len := by simp at hi; omega
  have h1 := hcell i (by omega)
  rw [h1]
  have h3 : i < zs.length := by omega
  simp [List.getD, h3]
theorem open_row13 {cs : List Value} {n : Nat} {x : DataW H × List MemPlace} (hf : DataW.trod enc Tryz.prog w 0 (fun _ => true) held n 30 cs = some x) :
  ∃ (A : Option Addr) (c : Nat) (l : List Rc), cs = [.slice A l.length c] ∧ (A = none → c = 0) ∧ RRow w A l ∧ l.length ≤ c ∧ c ≤ 9223372036854775807 := by
 obtain ⟨A, c, l, h1, h2, h3, h4⟩ := open_row9 hf
 rcases open_slice Tryz.underlying30 hf with ⟨e, _⟩ | ⟨a, len, cap, m, n, D, Pl, e, _, _, _, _, _, _⟩
 ·rw [e] at h1
  simp only [List.cons.injEq, Value.slice.injEq, and_true] at h1
  obtain ⟨rfl, k2, rfl⟩ := h1
  exact ⟨none, 0, l, by rw [e, k2], fun _ => rfl, h2, h3, h4⟩
 ·rw [e] at h1
  simp only [List.cons.injEq, Value.slice.injEq, and_true] at h1
  obtain ⟨rfl, k2, rfl⟩ := h1
  exact ⟨some a, _, l, by rw [e, k2], fun h => (nomatch h), h2, h3, h4⟩
end
end Go.Proofs.YtngddecpfhlilaaGreat
namespace Go.Proofs.YtngddecpfhlilaaGreat
theorem frB_iff (l : List Int) : frB l = true ↔ Asc l ∧ ∀ n ∈ l, numOk n := by
 constructor
 ·exact fun h => frB_asc h
 ·rintro ⟨h1, h2⟩
  unfold frB
  refine decide_eq_true (fun j hj => ⟨(nB_iff _).2 (h2 _ (List.getElem_mem hj)), fun h0 => ?_⟩)
  exact asc_at h1 (i := j - 1) (j := j) (by omega) hj
theorem lotB_iff (t : Lt) : lotB t = true ↔ LtOk oneB t := by
 unfold lotB oB
 simp only [Bool.and_eq_true, decide_eq_true_eq, frB_iff, nB_iff]
 constructor
 ·rintro ⟨⟨⟨h1, h2⟩, h3⟩, h4⟩; exact ⟨h1, h2, h3, h4⟩
 ·rintro ⟨h1, h2, h3, h4⟩; exact ⟨⟨⟨h1, h2⟩, h3⟩, h4⟩
theorem oneB_reg {a : List Rc} (h : oneB a = true) : RegP a := by
 unfold oneB at h
 exact ((@decide_eq_true_iff _ (Classical.propDecidable _)).1 h).1
theorem oneB_ok {a : List Rc} (h : oneB a = true) : IsForm a ∧ ∀ r ∈ a, ROk r := ⟨(oneB_reg h).1, form_ok (oneB_reg h).1⟩
theorem rgB_ok {a : List Rc} (h : rgB a = true) : IsForm a ∧ ∀ r ∈ a, ROk r := ⟨((rgB_iff a).1 h).1, form_ok ((rgB_iff a).1 h).1⟩
theorem apt_cells {r q : Rc} (hr : ROk r) (hq : ROk q) : Apt r q ↔ ∀ x y, ¬ (HasR r x y ∧ HasR q x y) := by
 constructor
 ·intro h x y ⟨h1, h2⟩
  unfold Apt at h
  obtain ⟨_, a1, a2, a3, a4⟩ := h1
  obtain ⟨_, b1, b2, b3, b4⟩ := h2
  omega
 ·intro h c
  refine h (max r.X0 q.X0) (max r.Y0 q.Y0) ⟨⟨hr, ?_⟩, ⟨hq, ?_⟩⟩
  ·have h1 := hr.1; have h2 := hr.2.1; have h3 := hr.2.2.1; have h4 := hr.2.2.2
   unfold ROk Span at hr hq
   omega
  ·unfold ROk Span at hr hq
   omega
theorem pw_mem {α : Type} {R : α → α → Prop} (hs : ∀ a b, R a b → R b a) : ∀ {l : List α}, l.Pairwise R → ∀ {t u : α}, t ∈ l → u ∈ l → t ≠ u → R t u
 | [], _, t, u, ht, _, _ => nomatch ht
 | v :: l, h, t, u, ht, hu, hne => by
  obtain ⟨h1, h2⟩ := List.pairwise_cons.1 h
  rcases List.mem_cons.1 ht with e1 | ht
  ·rcases List.mem_cons.1 hu with e2 | hu
   ·exact absurd (e1.trans e2.symm) hne
   ·rw [e1]; exact h1 u hu
  ·rcases List.mem_cons.1 hu with e2 | hu
   ·rw [e2]; exact hs _ _ (h1 t ht)
   ·exact pw_mem hs h2 ht hu hne
theorem disj_apt : ∀ {l : List Rc}, Disj l → (∀ r ∈ l, ROk r) → l.Pairwise Apt
 | [], _, _ => List.Pairwise.nil
 | r :: l, h, hok => by
  refine List.pairwise_cons.2 ⟨fun q hq => ?_, disj_apt h.2 (fun q hq => hok q (List.mem_cons_of_mem _ hq))⟩
  exact (apt_cells (hok r (by simp)) (hok q (List.mem_cons_of_mem _ hq))).2 (fun x y c => h.1 q hq x y c.1 c.2)
theorem form_apt {l : List Rc} (h : IsForm l) : l.Pairwise Apt := by
 have hok := form_ok h
 obtain ⟨S, hS, rfl⟩ := h
 exact disj_apt (slabs_disj hS) hok
theorem apt_symm {r q : Rc} (h : Apt r q) : Apt q r := by unfold Apt at *; omega
theorem land_of {L : List Lt} (h : LandP L) : Land oneB L := by
 have hok : ∀ t ∈ L, LtOk oneB t := fun t ht => (lotB_iff t).1 (h.lot t ht)
 have hap := List.pairwise_flatMap.1 (show (L.flatMap fun t => t.ar).Pairwise Apt from h.ap)
 refine ⟨h.len, hok, h.asc, fun t ht u hu c => ?_, fun t ht u hu hne x y => ?_⟩
 ·have h1 := h.fr u hu _ c
  unfold isIn at h1
  have h2 := List.any_eq_false.1 h1 t ht
  simp at h2
 ·rintro ⟨⟨r, hr, h1⟩, ⟨q, hq, h2⟩⟩
  have hs : ∀ a b : Lt, (∀ x ∈ a.ar, ∀ y ∈ b.ar, Apt x y) → (∀ x ∈ b.ar, ∀ y ∈ a.ar, Apt x y) := fun a b h x hx y hy => apt_symm (h y hy x hx)
  have h3 := pw_mem hs hap.2 ht hu (fun e => hne (by rw [e])) r hr q hq
  exact (apt_cells h1.1 h2.1).1 h3 x y ⟨h1, h2⟩
theorem of_land {L : List Lt} (h : Land oneB L) : LandP L := by
 refine ⟨h.len, fun t ht => (lotB_iff t).2 (h.ok t ht), h.asc, fun t ht n hn => ?_, ?_⟩
 ·unfold isIn
  rw [List.any_eq_false]
  intro u hu e
  have e2 : u.id = n := by simpa using e
  exact h.fr u hu t ht (by rw [e2]; exact hn)
 ·show (L.flatMap fun t => t.ar).Pairwise Apt
  rw [List.pairwise_flatMap]
  refine ⟨fun t ht => form_apt (oneB_ok (h.ok t ht).one).1, ?_⟩
  refine List.Pairwise.imp_of_mem ?_ (asc_pw.1 h.asc)
  intro t u ht hu hlt r hr q hq
  have h1 := h.off t ht u hu (by omega)
  exact (apt_cells ((oneB_ok (h.ok t ht).one).2 r hr) ((oneB_ok (h.ok u hu).one).2 q hq)).2 (fun x y c => h1 x y ⟨⟨r, hr, c.1⟩, ⟨q, hq, c.2⟩⟩)
theorem landB_is (L : List Lt) : landB L = true ↔ Land oneB L := (landB_iff L).trans ⟨land_of, of_land⟩
theorem par13 : Par13 landB lotB rgB oneB := ⟨landB_is, lotB_iff, fun a h => rgB_ok h, fun a h => oneB_ok h⟩
theorem difB_asc : ∀ {l : List Int}, Asc l → difB l = true
 | [], _ => rfl
 | k :: l, h => by
  unfold difB
  have h1 : decide (k ∈ l) = false := decide_eq_false (fun c => by have := h.lt k c; omega)
  rw [h1, difB_asc h.tail]; rfl
theorem mem_idsL (x : Int) (L : List Lt) : x ∈ idsL L ↔ ∃ t ∈ L, From t x := by
 unfold idsL
 rw [List.mem_flatMap]
 constructor
 ·rintro ⟨t, ht, h⟩
  rcases List.mem_cons.1 h with e | h
  ·exact ⟨t, ht, .inl e.symm⟩
  ·exact ⟨t, ht, .inr h⟩
 ·rintro ⟨t, ht, e | h⟩
  ·exact ⟨t, ht, by rw [e]; simp⟩
  ·exact ⟨t, ht, List.mem_cons_of_mem _ h⟩
theorem line_lin (ts : List Lt) : lineS ts = linL [] ts := by
 refine asc_eq (sortS_is _).1 (linL_asc ts (show Asc [] from trivial)) (fun z => ?_)
 unfold lineS
 rw [(sortS_is _).2, mem_idsL, mem_linL]
 constructor
 ·exact fun h => .inr h
 ·rintro (h | h)
  ·exact nomatch h
  ·exact h
theorem any_own (t : Lt) (ts : List Lt) : ((t :: ts).any fun u => decide (u.ow ≠ t.ow)) = ts.any fun u => decide (u.ow ≠ t.ow) := by
 rw [List.any_cons]
 have : decide (t.ow ≠ t.ow) = false := by simp
 rw [this]; rfl
theorem joinG_eq (L : List Lt) (o : List Int) (k : Int) (h : (sortS o).length = o.length) : joinG L (sortS o) o.length k = joinM landB oneB L (sortS o) k := by
 unfold joinG joinM
 have h1 := difB_asc (sortS_is o).1
 have h2 : decide ((sortS o).length = o.length) = true := decide_eq_true h
 rw [h1, h2, h]
 have e : (landB L && decide (2 ≤ o.length) && true && nB k) = (landB L && decide (2 ≤ o.length) && nB k && true) := by simp
 rw [e]
 split
 ·rfl
 ·cases findAll L (sortS o) with
  | none => rfl
  | some T =>
   cases T with
   | nil => rfl
   | cons t ts =>
    simp only
    rw [any_own, line_lin]
    rfl
theorem joinG_len {L : List Lt} {o : List Int} {k : Int} (h : (joinG L (sortS o) o.length k).2 = 0) : (sortS o).length = o.length := by
 by_cases c : (sortS o).length = o.length
 ·exact c
 ·unfold joinG at h
  rw [decide_eq_false c] at h
  simp at h
theorem joinG_ok {L : List Lt} {o : List Int} {k : Int} (h : (joinG L (sortS o) o.length k).2 = 0) :
  Land oneB L ∧ ∃ t, t.id = k ∧ JoinOk oneB (sortS o) t L ∧ IsForm t.ar ∧ (∀ u ∈ L, u.id ∈ o → u.ow = t.ow) ∧ (joinG L (sortS o) o.length k).1 = chL (sortS o) [t] L := by
 have he := joinG_eq L o k (joinG_len h)
 rw [he] at h ⊢
 obtain ⟨h1, t, h2, h3, h4, h5, h6⟩ := joinM_ok par13 h
 exact ⟨h1, t, h2, h3, h4, fun u hu hi => h5 u hu (((sortS_is o).2 _).2 hi), h6⟩
end Go.Proofs.YtngddecpfhlilaaGreat
