/-
  Openings of lots that were handed in.
  Lots (layer 13): what the program's operations tell, in the words of the chapter. No program in this text.
  Lots (layer 13): an operation of the laws, and what it keeps. No program in this text.
  Operations on lots that were handed in: how they lie in memory; FewOps; their opening.
-/
import Derived.Test.YtngddecpfhlilaaGreatC42
import Derived.Test.YtngddecpfhlilaaGreatC25
import Derived.Test.YtngddecpfhlilaaGreatC37
import Derived.Test.YtngddecpfhlilaaGreatC28
import Derived.Test.YtngddecpfhlilaaGreatC30
import Derived.Test.YtngddecpfhlilaaGreatC33
set_option linter.unusedVariables false
set_option maxRecDepth 100000
namespace Go.Proofs.YtngddecpfhlilaaGreat
open Go.RowKit Go.ChangeShapes Go.WideShapes Go.ChangeAt Go.Joins Go.Deep
theorem cellsLot : Tryz.prog.cellsOf 40 = 4 := by kernel_rfl
section
variable {H : Type} {enc : TypeId × Value → H} {w : World} {held : Bool}
theorem irow_of_cells {a : Addr} (xs : List Int) (hx : ∀ i (h : i < xs.length), w.cell? (a.add i) = some (.int .i64 xs[i])) : IRow w (some a) xs := fun hn => by
 obtain ⟨b, off, spot⟩ := a
 have h0 := hx 0 hn
 have hspot : spot = none := by simpa [Addr.add] using World.cell?_spot h0
 subst hspot
 refine ⟨b, off, rfl, ?_, fun j hj => ?_⟩
 ·have := World.block_lt_of_cell? w _ h0
  rw [add_at] at this
  exact this
 ·have := hx j hj
  rw [add_at] at this
  exact this
theorem open_irow {n : Nat} {v : Value} {y : DataW H × List MemPlace} (h : DataW.trod enc Tryz.prog w 0 (fun _ => true) held n 31 [v] = some y) :
  ∃ (A : Option Addr) (c : Nat) (l : List Int), v = .slice A l.length c ∧ (A = none → c = 0) ∧ IRow w A l ∧ l.length ≤ c ∧ c ≤ 9223372036854775807 := by
 rcases open_ints Tryz.underlying31 Tryz.underlying3 (by kernel_rfl) h with ⟨hcs, _⟩ | ⟨a, len, cap, zs, hcs, _, hl, hm, hz, _, hcell, hwz⟩
 ·obtain rfl : v = .slice none 0 0 := by simpa using hcs
  exact ⟨none, 0, [], rfl, (fun _ => rfl), (fun h => absurd h (by simp)), by simp, by omega⟩
 ·obtain rfl : v = .slice (some a) len cap := by simpa using hcs
  simp at hz
  have hlen : (zs.take len).length = len := by simp; omega
  refine ⟨some a, cap, zs.take len, by rw [hlen], (fun h => nomatch h), irow_of_cells _ (fun i hi => ?_), by rw [hlen]; omega, by unfold maxLen at hm; omega⟩
  have hi2 : i < len := by simp at hi; omega
  have h1 := hcell i (by omega)
  rw [h1]
  have h3 : i < zs.length := by omega
  simp [List.getD, h3]
theorem open_row13 {cs : List Value} {n : Nat} {x : DataW H × List MemPlace} (hf : DataW.trod enc Tryz.prog w 0 (fun _ => true) held n 30 cs = some x) :
  ∃ (A : Option Addr) (c : Nat) (l : List Rc), cs = [.slice A l.length c] ∧ (A = none → c = 0) ∧ RRow w A l ∧ l.length ≤ c ∧ c ≤ 9223372036854775807 := by
 obtain ⟨A, c, l, h1, h2, h3, h4⟩ := open_row9 hf
 rcases open_slice Tryz.underlying30 hf with ⟨e, _⟩ | ⟨a, len, cap, m, n, D, Pl, e, _, _, _, _, _, _⟩
 ·rw [e] at h1
  simp only [List.cons.injEq, Value.slice.injEq, and_true] at h1
  obtain ⟨rfl, k2, rfl⟩ := h1
  exact ⟨none, 0, l, by rw [e, k2], fun _ => rfl, h2, h3, h4⟩
 ·rw [e] at h1
  simp only [List.cons.injEq, Value.slice.injEq, and_true] at h1
  obtain ⟨rfl, k2, rfl⟩ := h1
  exact ⟨some a, _, l, by rw [e, k2], fun h => (nomatch h), h2, h3, h4⟩
theorem each_lot {a : Addr} {n : Nat} {cs : List Value} {y : DataW H × List MemPlace} (hc : w.cells? 0 a 4 = some cs) (ht : DataW.trod enc Tryz.prog w 0 (fun _ => true) held n 40 cs = some y) :
  ∃ x : LtV, (∀ j u, (tvc x)[j]? = some u → w.cell? (a.add j) = some u) ∧ LtOI w x.t x.p := by
 obtain ⟨ys, n', _, _, hlen, hyl, hf⟩ := DataW.trod_struct Tryz.underlying40 ht
 obtain ⟨_, hcl, hat⟩ := World.cells?_some hc
 match cs, hcl, hat with
 | [c0, c1, c2, c3], _, hat =>
  have e3 : Tryz.prog.cellsOf 3 = 1 := by kernel_rfl
  have e4 : Tryz.prog.cellsOf 31 = 1 := by kernel_rfl
  match ys, hyl, hf with
  | [y0, y1, y2, y3], _, hf =>
   have h0 : DataW.trod enc Tryz.prog w 0 (fun _ => true) held n' 3 [c0] = some y0 := by have := hf 0 _ rfl; simpa [e3, e4, cellsRects9] using this
   have h1 : DataW.trod enc Tryz.prog w 0 (fun _ => true) held n' 3 [c1] = some y1 := by have := hf 1 _ rfl; simpa [e3, e4, cellsRects9] using this
   have h2 : DataW.trod enc Tryz.prog w 0 (fun _ => true) held n' 30 [c2] = some y2 := by have := hf 2 _ rfl; simpa [e3, e4, cellsRects9] using this
   have h3 : DataW.trod enc Tryz.prog w 0 (fun _ => true) held n' 31 [c3] = some y3 := by have := hf 3 _ rfl; simpa [e3, e4, cellsRects9] using this
   obtain ⟨A, hA, _, _⟩ := DataW.trod_int Tryz.underlying3 h0
   obtain ⟨B, hB, _, _⟩ := DataW.trod_int Tryz.underlying3 h1
   obtain ⟨R, c, l, hR, hr0, hr1, hr2, hr3⟩ := open_row13 h2
   obtain ⟨Q, d, k, hQ, hq0, hq1, hq2, hq3⟩ := open_irow h3
   obtain rfl : c0 = .int .i64 A := by simpa using hA
   obtain rfl : c1 = .int .i64 B := by simpa using hB
   obtain rfl : c2 = .slice R l.length c := by simpa using hR
   subst hQ
   refine ⟨⟨⟨A, B, l, k⟩, ⟨R, c, Q, d⟩⟩, fun j u hu => ?_, ⟨hr1, hr2, hr3, hq1, hq2, hq3, hr0, hq0⟩⟩
   have hj : j < 4 := by have := (List.getElem?_eq_some_iff.1 hu).1; simpa [tvc] using this
   rw [hat j hj]; exact hu
theorem open_lots {v : Value} {d : DataW H} {p : List MemPlace} {r : Reach} {b0 : Nat} (hv : Value.okWide Tryz.prog w r b0 22 v) (h : DataW.Trod enc Tryz.prog w 0 (fun _ => true) held 22 v d p) :
    ∃ (A : Option Addr) (c : Nat) (S : List Lt), v = .slice A S.length c ∧ LtO w A c S := by
  obtain ⟨a0, len0, cap0, rfl⟩ := okWide_slice Tryz.underlying22 hv
  obtain ⟨fuel, hf⟩ := h
  rcases open_slice Tryz.underlying22 hf with ⟨hcs, _⟩ | ⟨a, len, cap, m, n, D, Pl, hcs, _, hl, hm, hmm, _, hi⟩
  · simp [Value.cells] at hcs
    obtain ⟨rfl, rfl, rfl⟩ := hcs
    exact ⟨none, 0, [], rfl, (fun h => absurd h (by simp)), by simp, by omega⟩
  · simp [Value.cells] at hcs
    obtain ⟨rfl, rfl, rfl⟩ := hcs
    simp at hmm
    subst hmm
    rw [cellsLot] at hi
    obtain ⟨l, hll, hp⟩ := list_of (P := fun i (x : LtV) => (∀ j u, (tvc x)[j]? = some u → w.cell? ((a.add (i * 4)).add j) = some u) ∧ LtOI w x.t x.p) len0 (fun i hlt => by
        obtain ⟨cs', hc, ht⟩ := hi i (by omega)
        exact each_lot hc ht)
    refine ⟨some a, m, tvS l, by rw [tvS_len, hll], fun hn => ?_, by rw [tvS_len]; omega, by unfold maxLen at hm; omega⟩
    rw [tvS_len] at hn
    obtain ⟨b, off, spot⟩ := a
    have hc0 := (hp 0 hn).1
    have h0 := hc0 0 _ rfl
    have hspot : spot = none := by simpa [Addr.add] using World.cell?_spot h0
    subst hspot
    refine ⟨b, off, rfl, ?_, fun j hj => ?_⟩
    · have := World.block_lt_of_cell? w _ h0
      rw [add_at, add_at] at this
      exact this
    · rw [tvS_len] at hj
      obtain ⟨hc, h1⟩ := hp j hj
      have hcc : ∀ q u, (tvc l[j])[q]? = some u → w.cell? ⟨b, off + j * 4 + q, none⟩ = some u := fun q u hu => by
        have := hc q u hu
        rw [add_at, add_at] at this
        exact this
      have e : (tvS l)[j]'(by rw [tvS_len]; exact hj) = l[j].t := by simp [tvS]
      rw [e]
      exact ⟨l[j].p, ⟨hcc 0 _ rfl, hcc 1 _ rfl, hcc 2 _ rfl, hcc 3 _ rfl⟩, h1⟩
end
end Go.Proofs.YtngddecpfhlilaaGreat
namespace Go.Proofs.YtngddecpfhlilaaGreat
theorem frB_iff (l : List Int) : frB l = true ↔ Asc l ∧ ∀ n ∈ l, numOk n := by
 constructor
 ·exact fun h => frB_asc h
 ·rintro ⟨h1, h2⟩
  unfold frB
  refine decide_eq_true (fun j hj => ⟨(nB_iff _).2 (h2 _ (List.getElem_mem hj)), fun h0 => ?_⟩)
  exact asc_at h1 (i := j - 1) (j := j) (by omega) hj
theorem lotB_iff (t : Lt) : lotB t = true ↔ LtOk oneB t := by
 unfold lotB oB
 simp only [Bool.and_eq_true, decide_eq_true_eq, frB_iff, nB_iff]
 constructor
 ·rintro ⟨⟨⟨h1, h2⟩, h3⟩, h4⟩; exact ⟨h1, h2, h3, h4⟩
 ·rintro ⟨h1, h2, h3, h4⟩; exact ⟨⟨⟨h1, h2⟩, h3⟩, h4⟩
theorem oneB_reg {a : List Rc} (h : oneB a = true) : RegP a := by
 unfold oneB at h
 exact ((@decide_eq_true_iff _ (Classical.propDecidable _)).1 h).1
theorem oneB_ok {a : List Rc} (h : oneB a = true) : IsForm a ∧ ∀ r ∈ a, ROk r := ⟨(oneB_reg h).1, form_ok (oneB_reg h).1⟩
theorem rgB_ok {a : List Rc} (h : rgB a = true) : IsForm a ∧ ∀ r ∈ a, ROk r := ⟨((rgB_iff a).1 h).1, form_ok ((rgB_iff a).1 h).1⟩
theorem apt_cells {r q : Rc} (hr : ROk r) (hq : ROk q) : Apt r q ↔ ∀ x y, ¬ (HasR r x y ∧ HasR q x y) := by
 constructor
 ·intro h x y ⟨h1, h2⟩
  unfold Apt at h
  obtain ⟨_, a1, a2, a3, a4⟩ := h1
  obtain ⟨_, b1, b2, b3, b4⟩ := h2
  omega
 ·intro h c
  refine h (max r.X0 q.X0) (max r.Y0 q.Y0) ⟨⟨hr, ?_⟩, ⟨hq, ?_⟩⟩
  ·have h1 := hr.1; have h2 := hr.2.1; have h3 := hr.2.2.1; have h4 := hr.2.2.2
   unfold ROk Span at hr hq
   omega
  ·unfold ROk Span at hr hq
   omega
theorem pw_mem {α : Type} {R : α → α → Prop} (hs : ∀ a b, R a b → R b a) : ∀ {l : List α}, l.Pairwise R → ∀ {t u : α}, t ∈ l → u ∈ l → t ≠ u → R t u
 | [], _, t, u, ht, _, _ => nomatch ht
 | v :: l, h, t, u, ht, hu, hne => by
  obtain ⟨h1, h2⟩ := List.pairwise_cons.1 h
  rcases List.mem_cons.1 ht with e1 | ht
  ·rcases List.mem_cons.1 hu with e2 | hu
   ·exact absurd (e1.trans e2.symm) hne
   ·rw [e1]; exact h1 u hu
  ·rcases List.mem_cons.1 hu with e2 | hu
   ·rw [e2]; exact hs _ _ (h1 t ht)
   ·exact pw_mem hs h2 ht hu hne
theorem disj_apt : ∀ {l : List Rc}, Disj l → (∀ r ∈ l, ROk r) → l.Pairwise Apt
 | [], _, _ => List.Pairwise.nil
 | r :: l, h, hok => by
  refine List.pairwise_cons.2 ⟨fun q hq => ?_, disj_apt h.2 (fun q hq => hok q (List.mem_cons_of_mem _ hq))⟩
  exact (apt_cells (hok r (by simp)) (hok q (List.mem_cons_of_mem _ hq))).2 (fun x y c => h.1 q hq x y c.1 c.2)
theorem form_apt {l : List Rc} (h : IsForm l) : l.Pairwise Apt := by
 have hok := form_ok h
 obtain ⟨S, hS, rfl⟩ := h
 exact disj_apt (slabs_disj hS) hok
theorem apt_symm {r q : Rc} (h : Apt r q) : Apt q r := by unfold Apt at *; omega
theorem land_of {L : List Lt} (h : LandP L) : Land oneB L := by
 have hok : ∀ t ∈ L, LtOk oneB t := fun t ht => (lotB_iff t).1 (h.lot t ht)
 have hap := List.pairwise_flatMap.1 (show (L.flatMap fun t => t.ar).Pairwise Apt from h.ap)
 refine ⟨h.len, hok, h.asc, fun t ht u hu c => ?_, fun t ht u hu hne x y => ?_⟩
 ·have h1 := h.fr u hu _ c
  unfold isIn at h1
  have h2 := List.any_eq_false.1 h1 t ht
  simp at h2
 ·rintro ⟨⟨r, hr, h1⟩, ⟨q, hq, h2⟩⟩
  have hs : ∀ a b : Lt, (∀ x ∈ a.ar, ∀ y ∈ b.ar, Apt x y) → (∀ x ∈ b.ar, ∀ y ∈ a.ar, Apt x y) := fun a b h x hx y hy => apt_symm (h y hy x hx)
  have h3 := pw_mem hs hap.2 ht hu (fun e => hne (by rw [e])) r hr q hq
  exact (apt_cells h1.1 h2.1).1 h3 x y ⟨h1, h2⟩
theorem of_land {L : List Lt} (h : Land oneB L) : LandP L := by
 refine ⟨h.len, fun t ht => (lotB_iff t).2 (h.ok t ht), h.asc, fun t ht n hn => ?_, ?_⟩
 ·unfold isIn
  rw [List.any_eq_false]
  intro u hu e
  have e2 : u.id = n := by simpa using e
  exact h.fr u hu t ht (by rw [e2]; exact hn)
 ·show (L.flatMap fun t => t.ar).Pairwise Apt
  rw [List.pairwise_flatMap]
  refine ⟨fun t ht => form_apt (oneB_ok (h.ok t ht).one).1, ?_⟩
  refine List.Pairwise.imp_of_mem ?_ (asc_pw.1 h.asc)
  intro t u ht hu hlt r hr q hq
  have h1 := h.off t ht u hu (by omega)
  exact (apt_cells ((oneB_ok (h.ok t ht).one).2 r hr) ((oneB_ok (h.ok u hu).one).2 q hq)).2 (fun x y c => h1 x y ⟨⟨r, hr, c.1⟩, ⟨q, hq, c.2⟩⟩)
theorem landB_is (L : List Lt) : landB L = true ↔ Land oneB L := (landB_iff L).trans ⟨land_of, of_land⟩
theorem par13 : Par13 landB lotB rgB oneB := ⟨landB_is, lotB_iff, fun a h => rgB_ok h, fun a h => oneB_ok h⟩
theorem difB_asc : ∀ {l : List Int}, Asc l → difB l = true
 | [], _ => rfl
 | k :: l, h => by
  unfold difB
  have h1 : decide (k ∈ l) = false := decide_eq_false (fun c => by have := h.lt k c; omega)
  rw [h1, difB_asc h.tail]; rfl
theorem mem_idsL (x : Int) (L : List Lt) : x ∈ idsL L ↔ ∃ t ∈ L, From t x := by
 unfold idsL
 rw [List.mem_flatMap]
 constructor
 ·rintro ⟨t, ht, h⟩
  rcases List.mem_cons.1 h with e | h
  ·exact ⟨t, ht, .inl e.symm⟩
  ·exact ⟨t, ht, .inr h⟩
 ·rintro ⟨t, ht, e | h⟩
  ·exact ⟨t, ht, by rw [e]; simp⟩
  ·exact ⟨t, ht, List.mem_cons_of_mem _ h⟩
theorem line_lin (ts : List Lt) : lineS ts = linL [] ts := by
 refine asc_eq (sortS_is _).1 (linL_asc ts (show Asc [] from trivial)) (fun z => ?_)
 unfold lineS
 rw [(sortS_is _).2, mem_idsL, mem_linL]
 constructor
 ·exact fun h => .inr h
 ·rintro (h | h)
  ·exact nomatch h
  ·exact h
theorem any_own (t : Lt) (ts : List Lt) : ((t :: ts).any fun u => decide (u.ow ≠ t.ow)) = ts.any fun u => decide (u.ow ≠ t.ow) := by
 rw [List.any_cons]
 have : decide (t.ow ≠ t.ow) = false := by simp
 rw [this]; rfl
theorem joinG_eq (L : List Lt) (o : List Int) (k : Int) (h : (sortS o).length = o.length) : joinG L (sortS o) o.length k = joinM landB oneB L (sortS o) k := by
 unfold joinG joinM
 have h1 := difB_asc (sortS_is o).1
 have h2 : decide ((sortS o).length = o.length) = true := decide_eq_true h
 rw [h1, h2, h]
 have e : (landB L && decide (2 ≤ o.length) && true && nB k) = (landB L && decide (2 ≤ o.length) && nB k && true) := by simp
 rw [e]
 split
 ·rfl
 ·cases findAll L (sortS o) with
  | none => rfl
  | some T =>
   cases T with
   | nil => rfl
   | cons t ts =>
    simp only
    rw [any_own, line_lin]
    rfl
theorem joinG_len {L : List Lt} {o : List Int} {k : Int} (h : (joinG L (sortS o) o.length k).2 = 0) : (sortS o).length = o.length := by
 by_cases c : (sortS o).length = o.length
 ·exact c
 ·unfold joinG at h
  rw [decide_eq_false c] at h
  simp at h
theorem joinG_ok {L : List Lt} {o : List Int} {k : Int} (h : (joinG L (sortS o) o.length k).2 = 0) :
  Land oneB L ∧ ∃ t, t.id = k ∧ JoinOk oneB (sortS o) t L ∧ IsForm t.ar ∧ (∀ u ∈ L, u.id ∈ o → u.ow = t.ow) ∧ (joinG L (sortS o) o.length k).1 = chL (sortS o) [t] L := by
 have he := joinG_eq L o k (joinG_len h)
 rw [he] at h ⊢
 obtain ⟨h1, t, h2, h3, h4, h5, h6⟩ := joinM_ok par13 h
 exact ⟨h1, t, h2, h3, h4, fun u hu hi => h5 u hu (((sortS_is o).2 _).2 hi), h6⟩
end Go.Proofs.YtngddecpfhlilaaGreat
namespace Go.Proofs.YtngddecpfhlilaaGreat
structure Op13 where
 k : Int
 id : Int
 a : Int
 b : Int
 n : Int
 ar : List Rc
 ids : List Int
noncomputable def doR (L : List Lt) (o : Op13) : List Lt × Int :=
 if o.k = 0 then addM landB lotB L ⟨o.id, o.n, (ofR o.ar).1, []⟩
 else if o.k = 1 then splitM landB rgB oneB L o.id (ofR o.ar).1 o.a o.b
 else if o.k = 2 then joinG L (sortS o.ids) o.ids.length o.id
 else if o.k = 3 then transM landB L o.id o.n
 else (L, 0)
noncomputable def doM (L : List Lt) (o : Op13) : List Lt × Int := if (doR L o).2 = 0 then ((doR L o).1, 0) else (L, (doR L o).2)
theorem doM_code (L : List Lt) (o : Op13) : (doM L o).2 = (doR L o).2 := by
 unfold doM
 split
 ·next h => exact h.symm
 ·rfl
theorem doM_err {L : List Lt} {o : Op13} (h : (doM L o).2 ≠ 0) : (doM L o).1 = L := by
 rw [doM_code] at h
 unfold doM
 rw [if_neg h]
theorem doM_res {L : List Lt} {o : Op13} (h : (doM L o).2 = 0) : (doM L o).1 = (doR L o).1 := by
 rw [doM_code] at h
 unfold doM
 rw [if_pos h]
theorem do_ok {L : List Lt} {o : Op13} (h : (doM L o).2 = 0) :
  (o.k = 0 ∧ AddOk oneB ⟨o.id, o.n, (ofR o.ar).1, []⟩ L ∧ (doM L o).1 = chL [] [⟨o.id, o.n, (ofR o.ar).1, []⟩] L) ∨
  (o.k = 1 ∧ ∃ t, t.id = o.id ∧ SplitOk oneB t (ofR o.ar).1 o.a o.b L ∧ (doM L o).1 = chL [o.id] (splitN t (ofR o.ar).1 o.a o.b) L) ∨
  (o.k = 2 ∧ ∃ t, t.id = o.id ∧ JoinOk oneB (sortS o.ids) t L ∧ IsForm t.ar ∧ (∀ u ∈ L, u.id ∈ o.ids → u.ow = t.ow) ∧ (doM L o).1 = chL (sortS o.ids) [t] L) ∨
  (o.k = 3 ∧ ∃ t ∈ L, t.id = o.id ∧ 0 ≤ o.n ∧ o.n ≤ 1073741824 ∧ (doM L o).1 = chL [o.id] [ownT t o.n] L) ∨
  (o.k ≠ 0 ∧ o.k ≠ 1 ∧ o.k ≠ 2 ∧ o.k ≠ 3 ∧ (doM L o).1 = L) := by
 rw [doM_res h]
 rw [doM_code] at h
 unfold doR at h ⊢
 by_cases c0 : o.k = 0
 ·rw [if_pos c0] at h ⊢
  obtain ⟨_, h2, h3⟩ := addM_ok par13 h
  exact .inl ⟨c0, h2, h3⟩
 rw [if_neg c0] at h ⊢
 by_cases c1 : o.k = 1
 ·rw [if_pos c1] at h ⊢
  obtain ⟨_, t, h2, h3, h4⟩ := splitM_ok par13 h
  exact .inr (.inl ⟨c1, t, h2, h3, h4⟩)
 rw [if_neg c1] at h ⊢
 by_cases c2 : o.k = 2
 ·rw [if_pos c2] at h ⊢
  obtain ⟨_, t, h2, h3, h4, h5, h6⟩ := joinG_ok h
  exact .inr (.inr (.inl ⟨c2, t, h2, h3, h4, h5, h6⟩))
 rw [if_neg c2] at h ⊢
 by_cases c3 : o.k = 3
 ·rw [if_pos c3] at h ⊢
  obtain ⟨_, h2, h3, t, h4, h5, h6⟩ := transM_ok par13 h
  exact .inr (.inr (.inr (.inl ⟨c3, t, h4, h5, h2, h3, h6⟩)))
 rw [if_neg c3]
 exact .inr (.inr (.inr (.inr ⟨c0, c1, c2, c3, rfl⟩)))
theorem ch_none (L : List Lt) : chL [] [] L = L := by
 show wthL [] L = L
 exact wth_nil L
structure Ch13 (L : List Lt) (o : Op13) (G : List Int) (N : List Lt) : Prop where
 chg : LChg oneB G N L
 same : Same13 G N L
 res : (doM L o).1 = chL G N L
 tot : totL (chL G N L) = totL L
 own : ∀ t ∈ L, t.id ∈ G → ∀ w ∈ N, ∀ x y, HasL t.ar x y → HasL w.ar x y → w.ow = if o.k = 3 then o.n else t.ow
 gone : o.k = 3 → G = [o.id]
theorem forms_of {L : List Lt} (h : Land oneB L) : ∀ u ∈ L, IsForm u.ar ∧ ∀ r ∈ u.ar, ROk r := fun u hu => oneB_ok (h.ok u hu).one
theorem do_chg {L : List Lt} {o : Op13} (hl : Land oneB L) (h : (doM L o).2 = 0) (h0 : o.k ≠ 0) : ∃ G N, Ch13 L o G N := by
 rcases do_ok h with ⟨c, _⟩ | ⟨c, t, e, s, hr⟩ | ⟨c, t, e, s, hf, hw, hr⟩ | ⟨c, t, ht, e, g1, g2, hr⟩ | ⟨_, c1, c2, c3, hr⟩
 ·exact absurd c h0
 ·refine ⟨[t.id], splitN t (ofR o.ar).1 o.a o.b, split_chg hl s, split_same hl s, by rw [hr, e], split_tot hl s (forms_of hl t s.mem).1, fun u hu hi w hw x y _ _ => ?_, fun c3 => by omega⟩
  have e1 : u.id = t.id := by simpa using hi
  have e2 := hl.asc.one hu s.mem e1
  rw [if_neg (by omega), e2]
  unfold splitN at hw
  simp only [List.mem_cons, List.not_mem_nil, or_false] at hw
  rcases hw with e3 | e3 <;> rw [e3]
 ·obtain ⟨k1, k2⟩ := join_chg hl s
  refine ⟨sortS o.ids, [t], k1, k2, hr, join_tot hl s (forms_of hl) hf, fun u hu hi w hw2 x y _ _ => ?_, fun c3 => by omega⟩
  have e3 : w = t := by simpa using hw2
  rw [if_neg (by omega), e3]
  exact (hw u hu (((sortS_is o.ids).2 _).1 hi)).symm
 ·obtain ⟨k1, k2⟩ := trans_chg hl ht ⟨g1, g2⟩
  refine ⟨[t.id], [ownT t o.n], k1, k2, by rw [hr, e], trans_tot hl ht o.n, fun u hu hi w hw2 x y _ _ => ?_, fun _ => by rw [e]⟩
  have e3 : w = ownT t o.n := by simpa using hw2
  rw [if_pos c, e3]
  rfl
 ·refine ⟨[], [], ⟨by rw [ch_none]; exact hl.len, (fun t ht => nomatch ht), trivial, (fun t ht => nomatch ht), (fun t ht => nomatch ht), (fun t ht => nomatch ht), (fun t ht => nomatch ht)⟩,
   ⟨(fun k hk => nomatch hk), (fun w hw => nomatch hw), (fun t ht hi => nomatch hi), (fun t ht hi => nomatch hi), (fun t ht hi => nomatch hi)⟩, by rw [hr, ch_none], by rw [ch_none], (fun t ht hi => nomatch hi), fun c => absurd c c3⟩
theorem do_land {L : List Lt} {o : Op13} (hl : Land oneB L) : Land oneB (doM L o).1 := by
 by_cases h : (doM L o).2 = 0
 ·by_cases h0 : o.k = 0
  ·rcases do_ok h with ⟨_, s, hr⟩ | ⟨c, _⟩ | ⟨c, _⟩ | ⟨c, _⟩ | ⟨c, _⟩
   ·rw [hr]; exact hl.chg (add_chg s)
   all_goals (exfalso; omega)
  ·obtain ⟨G, N, c⟩ := do_chg hl h h0
   rw [c.res]; exact hl.chg c.chg
 ·rw [doM_err h]; exact hl
theorem hasRg_land {L : List Lt} (h : Land oneB L) {t : Lt} (ht : t ∈ L) (x y : Int) : hasRg t.ar x y = true ↔ HasL t.ar x y := by
 have h1 := oneB_reg (h.ok t ht).one
 unfold hasRg
 constructor
 ·intro c
  first
   | exact ((@decide_eq_true_iff _ (Classical.propDecidable _)).1 c).2
   | (simp only [Bool.and_eq_true, decide_eq_true_eq] at c; exact (has_iff _ _ _).1 c.2)
 ·intro c
  first
   | exact (@decide_eq_true_iff _ (Classical.propDecidable _)).2 ⟨h1, c⟩
   | (simp only [Bool.and_eq_true, decide_eq_true_eq]; exact ⟨h1, (has_iff _ _ _).2 c⟩)
theorem atG_iff {L : List Lt} (h : Land oneB L) {x y : Int} {t : Lt} : atG L x y = some t ↔ t ∈ L ∧ HasL t.ar x y := by
 unfold atG
 constructor
 ·intro e
  have hm := List.mem_of_find?_eq_some e
  have hp : hasRg t.ar x y = true := List.find?_some (p := fun t : Lt => hasRg t.ar x y) e
  exact ⟨hm, (hasRg_land h hm x y).1 hp⟩
 ·rintro ⟨hm, hp⟩
  cases e : L.find? fun t => hasRg t.ar x y with
  | none =>
   have := List.find?_eq_none.1 e t hm
   exact absurd ((hasRg_land h hm x y).2 hp) this
  | some u =>
   have hm2 := List.mem_of_find?_eq_some e
   have hp1 : hasRg u.ar x y = true := List.find?_some (p := fun t : Lt => hasRg t.ar x y) e
   have hp2 := (hasRg_land h hm2 x y).1 hp1
   rw [h.at_one hm2 hm hp2 hp]
theorem atG_none {L : List Lt} (h : Land oneB L) {x y : Int} : atG L x y = none ↔ ∀ t ∈ L, ¬ HasL t.ar x y := by
 constructor
 ·intro e t ht c
  rw [(atG_iff h).2 ⟨ht, c⟩] at e
  cases e
 ·intro hn
  cases e : atG L x y with
  | none => rfl
  | some u => exact absurd ((atG_iff h).1 e).2 (hn u ((atG_iff h).1 e).1)
theorem at_same {L : List Lt} {G : List Int} {N : List Lt} (h : Land oneB L) (c : LChg oneB G N L) (s : Same13 G N L) (x y : Int) :
  (atG L x y = none ∧ atG (chL G N L) x y = none) ∨ ∃ t u, atG L x y = some t ∧ atG (chL G N L) x y = some u ∧ ((t.id ∉ G ∧ u = t) ∨ (t.id ∈ G ∧ u ∈ N)) := by
 have hb := h.chg c
 cases e : atG L x y with
 | none =>
  refine .inl ⟨rfl, (atG_none hb).2 (fun t ht k => ?_)⟩
  obtain ⟨u, hu, k2⟩ := (s.has x y).1 ⟨t, ht, k⟩
  exact (atG_none h).1 e u hu k2
 | some t =>
  obtain ⟨ht, k⟩ := (atG_iff h).1 e
  refine .inr ?_
  by_cases hg : t.id ∈ G
  ·obtain ⟨w, hw, k2⟩ := s.down t ht hg x y k
   exact ⟨t, w, rfl, (atG_iff hb).2 ⟨mem_chL.2 (.inl hw), k2⟩, .inr ⟨hg, hw⟩⟩
  ·exact ⟨t, t, rfl, (atG_iff hb).2 ⟨mem_chL.2 (.inr ⟨ht, hg⟩), k⟩, .inl ⟨hg, rfl⟩⟩
def nmG (x : Option Lt) : Int := (x.map fun t => t.id).getD 0
noncomputable def owG (L : List Lt) (n : Int) : Int := ((findL L n).getD lt0).ow
theorem keeps_chg {L : List Lt} {o : Op13} (h : Land oneB L) (hz : (doM L o).2 = 0) (h0 : o.k ≠ 0) (x y : Int) :
  (atG (doM L o).1 x y).isSome = (atG L x y).isSome ∧ ((atG (doM L o).1 x y).isSome = true → owG (doM L o).1 (nmG (atG (doM L o).1 x y)) = if o.k = 3 ∧ nmG (atG L x y) = o.id then o.n else owG L (nmG (atG L x y))) ∧ totL (doM L o).1 = totL L := by
 obtain ⟨G, N, c⟩ := do_chg h hz h0
 have hb := h.chg c.chg
 rw [c.res]
 rcases at_same h c.chg c.same x y with ⟨e1, e2⟩ | ⟨t, u, e1, e2, hh⟩
 ·rw [e1, e2]
  exact ⟨rfl, fun k => (by cases k), c.tot⟩
 ·obtain ⟨ht, k1⟩ := (atG_iff h).1 e1
  obtain ⟨hu, k2⟩ := (atG_iff hb).1 e2
  rw [e1, e2]
  refine ⟨rfl, fun _ => ?_, c.tot⟩
  show ((findL (chL G N L) u.id).getD lt0).ow = if o.k = 3 ∧ t.id = o.id then o.n else ((findL L t.id).getD lt0).ow
  rw [find_of hb.asc hu, find_of h.asc ht]
  show u.ow = if o.k = 3 ∧ t.id = o.id then o.n else t.ow
  rcases hh with ⟨g, rfl⟩ | ⟨g, hn⟩
  ·have : ¬ (o.k = 3 ∧ u.id = o.id) := by
    rintro ⟨c3, c4⟩
    rw [c.gone c3] at g
    exact g (by rw [c4]; simp)
   rw [if_neg this]
  ·rw [c.own t ht g u hn x y k1 k2]
   by_cases c3 : o.k = 3
   ·have : t.id = o.id := by rw [c.gone c3] at g; simpa using g
    rw [if_pos c3, if_pos ⟨c3, this⟩]
   ·rw [if_neg c3, if_neg (fun k => c3 k.1)]
theorem ofR_reg {l : List Rc} : RegP (ofR l).1 ∨ (ofR l).1 = [] := by
 unfold ofR capR
 split
 ·next h =>
  split
  ·split
   ·next h2 => exact .inl ⟨(formL_is h).1, h2⟩
   ·exact .inr rfl
  ·exact .inr rfl
 ·exact .inr rfl
theorem regP_nil : RegP [] := ⟨isForm_nil, by simp⟩
theorem ofR_regP (l : List Rc) : RegP (ofR l).1 := by
 rcases @ofR_reg l with h | h
 ·exact h
 ·rw [h]; exact regP_nil
theorem keeps_add {L : List Lt} {o : Op13} (h : Land oneB L) (hz : (doM L o).2 = 0) (h0 : o.k = 0) (x y : Int) :
  (atG (doM L o).1 x y).isSome = ((atG L x y).isSome || hasRg (ofR o.ar).1 x y) ∧ ((atG L x y).isSome = true → hasRg (ofR o.ar).1 x y = false) ∧ (hasRg (ofR o.ar).1 x y = true → nmG (atG (doM L o).1 x y) = o.id) ∧
  ((atG L x y).isSome = true → nmG (atG (doM L o).1 x y) = nmG (atG L x y)) ∧ totL (doM L o).1 = totL L + areaL (ofR o.ar).1 := by
 rcases do_ok hz with ⟨_, s, hr⟩ | ⟨c, _⟩ | ⟨c, _⟩ | ⟨c, _⟩ | ⟨c, _⟩
 rotate_left
 all_goals first | (exfalso; omega) | skip
 have hb := h.chg (add_chg s)
 rw [hr]
 generalize (ofR o.ar).1 = A at *
 have hA : hasRg A x y = true ↔ HasL A x y := hasRg_land hb (t := ⟨o.id, o.n, A, []⟩) (mem_chL.2 (.inl (by simp))) x y
 have htot : totL (chL [] [⟨o.id, o.n, A, []⟩] L) = totL L + areaL A := add_tot _ _
 cases hh : hasRg A x y with
 | true =>
  have k := hA.1 hh
  have e2 : atG (chL [] [⟨o.id, o.n, A, []⟩] L) x y = some ⟨o.id, o.n, A, []⟩ := (atG_iff hb).2 ⟨mem_chL.2 (.inl (by simp)), k⟩
  have e1 : atG L x y = none := (atG_none h).2 (fun t ht k2 => s.off t ht x y ⟨k, k2⟩)
  rw [e1, e2]
  exact ⟨rfl, fun c => (by cases c), fun _ => rfl, fun c => (by cases c), htot⟩
 | false =>
  have k : ¬ HasL A x y := fun c => by rw [hA.2 c] at hh; cases hh
  cases e1 : atG L x y with
  | none =>
   have e2 : atG (chL [] [⟨o.id, o.n, A, []⟩] L) x y = none := (atG_none hb).2 (fun t ht k2 => by
    rcases mem_chL.1 ht with ht | ⟨ht, _⟩
    ·have : t = ⟨o.id, o.n, A, []⟩ := by simpa using ht
     rw [this] at k2; exact k k2
    ·exact (atG_none h).1 e1 t ht k2)
   rw [e2]
   exact ⟨rfl, fun c => (by cases c), fun c => (by cases c), fun c => (by cases c), htot⟩
  | some t =>
   obtain ⟨ht, k2⟩ := (atG_iff h).1 e1
   have e2 : atG (chL [] [⟨o.id, o.n, A, []⟩] L) x y = some t := (atG_iff hb).2 ⟨mem_chL.2 (.inr ⟨ht, by simp⟩), k2⟩
   rw [e2]
   exact ⟨rfl, fun _ => rfl, fun c => (by cases c), fun _ => rfl, htot⟩
theorem ids_cons (t : Lt) (L : List Lt) : (idsL (t :: L)).length = t.fr.length + 1 + (idsL L).length := by
 unfold idsL
 rw [List.flatMap_cons, List.length_append, List.length_cons]
theorem ids_ins (t : Lt) : ∀ L, (idsL (insL t L)).length = t.fr.length + 1 + (idsL L).length
 | [] => by unfold insL; rw [ids_cons]
 | v :: L => by
  unfold insL
  split
  ·rw [ids_cons, ids_ins t L, ids_cons]; omega
  ·rw [ids_cons]
theorem ids_fold : ∀ (n a : List Lt), (idsL (n.foldl (fun a t => insL t a) a)).length = (idsL n).length + (idsL a).length
 | [], a => by simp [idsL]
 | t :: n, a => by rw [List.foldl_cons, ids_fold n, ids_ins, ids_cons]; omega
theorem ids_ch (G : List Int) (N L : List Lt) : (idsL (chL G N L)).length ≤ (idsL N).length + (idsL L).length := by
 unfold chL
 rw [ids_fold]
 have := ids_filter (fun t => decide (t.id ∉ G)) L
 unfold wthL
 omega
theorem ids_mem {L : List Lt} {t : Lt} (h : t ∈ L) : t.fr.length + 1 ≤ (idsL L).length := by
 induction L with
 | nil => exact nomatch h
 | cons v L ih =>
  rw [ids_cons]
  rcases List.mem_cons.1 h with e | h
  ·rw [e]; omega
  ·have := ih h; omega
theorem insS_le (x : Int) (t : List Int) : (insS x t).length ≤ t.length + 1 := by
 have := sortS_len (t ++ [x])
 by_cases c : x ∈ t
 ·induction t with
  | nil => simp [insS]
  | cons a t ih =>
   unfold insS
   split
   ·simp
   ·split
    ·simp
    ·have := sortS_len (t ++ [x])
     by_cases c2 : x ∈ t
     ·have := ih this c2; simp; omega
     ·have := insS_lenA c2; simp; omega
 ·have := insS_lenA c; omega
theorem asc_sub13 : ∀ {t s : List Int}, Asc t → Asc s → (∀ z ∈ t, z ∈ s) → t.length ≤ s.length
 | [], s, _, _, _ => by simp
 | a :: t, [], _, _, h => nomatch h a (by simp)
 | a :: t, b :: s, ht, hs, h => by
  rw [List.length_cons, List.length_cons]
  have h1 : t.length ≤ s.length := asc_sub13 ht.tail hs.tail (fun z hz => by
   have k1 := ht.lt z hz
   rcases List.mem_cons.1 (h a (by simp)) with e | k2
   ·rcases List.mem_cons.1 (h z (List.mem_cons_of_mem _ hz)) with e2 | k3
    ·omega
    ·exact k3
   ·have k4 := hs.lt a k2
    rcases List.mem_cons.1 (h z (List.mem_cons_of_mem _ hz)) with e2 | k3
    ·omega
    ·exact k3)
  omega
theorem do_ids {L : List Lt} {o : Op13} (hl : Land oneB L) : (idsL (doM L o).1).length ≤ 3 * (idsL L).length + 4 := by
 by_cases h : (doM L o).2 = 0
 ·rcases do_ok h with ⟨_, s, hr⟩ | ⟨c, t, e, s, hr⟩ | ⟨c, t, e, s, hf, hw, hr⟩ | ⟨c, t, ht, e, g1, g2, hr⟩ | ⟨_, c1, c2, c3, hr⟩
  ·rw [hr]
   have := ids_ch [] [⟨o.id, o.n, (ofR o.ar).1, []⟩] L
   rw [ids_cons] at this
   simp [idsL] at this ⊢; omega
  ·rw [hr]
   have h1 := ids_ch [o.id] (splitN t (ofR o.ar).1 o.a o.b) L
   have h2 := ids_mem s.mem
   have h3 := insS_le t.id t.fr
   unfold splitN at h1
   rw [ids_cons, ids_cons] at h1
   have h4 : (idsL []).length = 0 := rfl
   simp only at h1
   unfold splitN
   omega
  ·rw [hr]
   have h1 := ids_ch (sortS o.ids) [t] L
   rw [ids_cons] at h1
   have h4 : (idsL []).length = 0 := rfl
   have h5 : t.fr.length ≤ (idsL L).length := by
    have h6 : t.fr = sortS t.fr := asc_eq s.ok.fr.1 (sortS_is _).1 (fun z => ((sortS_is _).2 z).symm)
    have h7 : ∀ z ∈ t.fr, z ∈ sortS (idsL L) := fun z hz => by
     obtain ⟨u, hu, _, k⟩ := (s.fr z).1 hz
     exact ((sortS_is _).2 z).2 ((mem_idsL z L).2 ⟨u, hu, k⟩)
    have h8 := sortS_len (idsL L)
    have h9 := asc_sub13 s.ok.fr.1 (sortS_is (idsL L)).1 h7
    omega
   omega
  ·rw [hr]
   have h1 := ids_ch [o.id] [ownT t o.n] L
   rw [ids_cons] at h1
   have h2 := ids_mem ht
   have h4 : (idsL []).length = 0 := rfl
   have h5 : (ownT t o.n).fr = t.fr := rfl
   rw [h5] at h1
   omega
  ·rw [hr]; omega
 ·rw [doM_err h]; omega
end Go.Proofs.YtngddecpfhlilaaGreat
namespace Go.Proofs.YtngddecpfhlilaaGreat
open Go.RowKit Go.ChangeShapes Go.WideShapes Go.ChangeAt Go.Joins Go.Deep
def opc (x : Op13) (p : LtP) : List Value := [.int .i64 x.k, .int .i64 x.id, .int .i64 x.a, .int .i64 x.b, .int .i64 x.n, .slice p.A x.ar.length p.c, .slice p.B x.ids.length p.d]
def opv (x : Op13) (p : LtP) : Value := .agg #[.int .i64 x.k, .int .i64 x.id, .int .i64 x.a, .int .i64 x.b, .int .i64 x.n, .slice p.A x.ar.length p.c, .slice p.B x.ids.length p.d]
def OpC (w : World) (b o : Nat) (x : Op13) (p : LtP) : Prop := w.cell? ⟨b, o, none⟩ = some (.int .i64 x.k) ∧ w.cell? ⟨b, o + 1, none⟩ = some (.int .i64 x.id) ∧ w.cell? ⟨b, o + 2, none⟩ = some (.int .i64 x.a) ∧ w.cell? ⟨b, o + 3, none⟩ = some (.int .i64 x.b) ∧ w.cell? ⟨b, o + 4, none⟩ = some (.int .i64 x.n) ∧ w.cell? ⟨b, o + 5, none⟩ = some (.slice p.A x.ar.length p.c) ∧ w.cell? ⟨b, o + 6, none⟩ = some (.slice p.B x.ids.length p.d)
theorem OpC.below {w w' : World} {b o : Nat} {x : Op13} {p : LtP} (h : OpC w b o x p) (hl : b < w.heap.size) (hb : Below w.heap.size w w') : OpC w' b o x p := by
 obtain ⟨h0, h1, h2, h3, h4, h5, h6⟩ := h
 have wc := fun k => hb.cell (p := ⟨b, k, none⟩) hl
 exact ⟨(wc _).trans h0, (wc _).trans h1, (wc _).trans h2, (wc _).trans h3, (wc _).trans h4, (wc _).trans h5, (wc _).trans h6⟩
structure OpOI (w : World) (t : Op13) (p : LtP) : Prop where
 ar : RRow w p.A t.ar
 al : t.ar.length ≤ p.c
 ac : p.c ≤ 9223372036854775807
 ids : IRow w p.B t.ids
 bl : t.ids.length ≤ p.d
 bc : p.d ≤ 9223372036854775807
theorem OpOI.below {w w' : World} {t : Op13} {p : LtP} (h : OpOI w t p) (hb : Below w.heap.size w w') : OpOI w' t p := ⟨h.ar.below hb, h.al, h.ac, h.ids.below hb, h.bl, h.bc⟩
def OpORow (w : World) (A : Option Addr) (L : List Op13) : Prop := 0 < L.length → ∃ b off, A = some ⟨b, off, none⟩ ∧ b < w.heap.size ∧ ∀ j (h : j < L.length), ∃ p, OpC w b (off + j * 7) L[j] p ∧ OpOI w L[j] p
structure OpO (w : World) (A : Option Addr) (cap : Nat) (L : List Op13) : Prop where
 row : OpORow w A L
 room : L.length ≤ cap
 room2 : cap ≤ 9223372036854775807
theorem OpO.len {w : World} {A : Option Addr} {cap : Nat} {L : List Op13} (h : OpO w A cap L) : L.length ≤ 9223372036854775807 := Nat.le_trans h.room h.room2
theorem OpO.below {w w' : World} {A : Option Addr} {cap : Nat} {L : List Op13} (h : OpO w A cap L) (hb : Below w.heap.size w w') : OpO w' A cap L := ⟨fun h0 => by
 obtain ⟨b, off, e, hl, hc⟩ := h.row h0
 refine ⟨b, off, e, Nat.lt_of_lt_of_le hl hb.size, fun j hj => ?_⟩
 obtain ⟨p, hp, hi⟩ := hc j hj
 exact ⟨p, hp.below hl hb, hi.below hb⟩, h.room, h.room2⟩
theorem OpO.fut {w : World} {A : Option Addr} {c : Nat} {L : List Op13} (h : OpO w A c L) : Fut w (fun w' => OpO w' A c L) := fun w' hb => h.below hb
theorem OpO.at_ {w : World} {A : Option Addr} {cap : Nat} {L : List Op13} (h : OpO w A cap L) {j : Nat} (hj : j < L.length) : ∃ b off p, A = some ⟨b, off, none⟩ ∧ b < w.heap.size ∧ OpC w b (off + j * 7) L[j] p ∧ OpOI w L[j] p := by
 obtain ⟨b, off, e, hl, hc⟩ := h.row (by omega)
 obtain ⟨p, hp, hi⟩ := hc j hj
 exact ⟨b, off, p, e, hl, hp, hi⟩
def fewOB (L : List Op13) : Bool := (L.all fun t => decide (t.ar.length ≤ 10) && decide (t.ids.length ≤ 8)) && decide (L.length ≤ 12)
theorem fewO_bad {L : List Op13} {k : Nat} (hk : k < L.length) (h : 10 < L[k].ar.length ∨ 8 < L[k].ids.length) : fewOB L = false := by
 unfold fewOB
 have : (L.all fun t => decide (t.ar.length ≤ 10) && decide (t.ids.length ≤ 8)) = false := by
  rw [List.all_eq_false]
  exact ⟨L[k], List.getElem_mem hk, by simp; omega⟩
 rw [this]; rfl
theorem fewO_good {L : List Op13} (h : ∀ j (hj : j < L.length), L[j].ar.length ≤ 10 ∧ L[j].ids.length ≤ 8) : fewOB L = decide (L.length ≤ 12) := by
 unfold fewOB
 have : (L.all fun t => decide (t.ar.length ≤ 10) && decide (t.ids.length ≤ 8)) = true := by
  rw [List.all_eq_true]
  intro t ht
  obtain ⟨j, hj, rfl⟩ := List.getElem_of_mem ht
  have := h j hj
  simp; omega
 rw [this]; rfl
theorem fewO_len {L : List Op13} (h : fewOB L = true) : L.length ≤ 12 ∧ ∀ t ∈ L, t.ar.length ≤ 10 ∧ t.ids.length ≤ 8 := by
 unfold fewOB at h
 rw [Bool.and_eq_true, List.all_eq_true] at h
 refine ⟨by simpa using h.2, fun t ht => ?_⟩
 have := h.1 t ht
 simpa using this
structure OpI (w : World) (t : Op13) (p : LtP) : Prop where
 ar : RIn w p.A p.c t.ar
 ids : NIn w p.B p.d t.ids
theorem OpI.below {w w' : World} {t : Op13} {p : LtP} (h : OpI w t p) (hb : Below w.heap.size w w') : OpI w' t p := ⟨h.ar.below hb, h.ids.below hb⟩
theorem OpI.fut {w : World} {t : Op13} {p : LtP} (h : OpI w t p) : Fut w (fun w' => OpI w' t p) := fun w' hb => h.below hb
theorem OpOI.few {w : World} {t : Op13} {p : LtP} (h : OpOI w t p) (h1 : t.ar.length ≤ 10) (h2 : t.ids.length ≤ 1000) : OpI w t p := ⟨⟨h.ar, by omega, h.al, h.ac⟩, ⟨h.ids, by omega, h.bl, h.bc⟩⟩
theorem cellsOp13 : Tryz.prog.cellsOf 33 = 7 := by kernel_rfl
structure OpV where
 x : Op13
 p : LtP
def opvS (L : List OpV) : List Op13 := L.map (·.x)
theorem opvS_len (L : List OpV) : (opvS L).length = L.length := by simp [opvS]
section
variable {H : Type} {enc : TypeId × Value → H} {w : World} {held : Bool}
theorem op13_of {n : Nat} {cs : List Value} {y : DataW H × List MemPlace} (hcl : cs.length = 7) (ht : DataW.trod enc Tryz.prog w 0 (fun _ => true) held n 33 cs = some y) :
  ∃ x : OpV, cs = opc x.x x.p ∧ OpOI w x.x x.p := by
 obtain ⟨ys, n', _, _, hlen, hyl, hf⟩ := DataW.trod_struct Tryz.underlying33 ht
 match cs, hcl with
 | [c0, c1, c2, c3, c4, c5, c6], _ =>
  have e3 : Tryz.prog.cellsOf 3 = 1 := by kernel_rfl
  have e4 : Tryz.prog.cellsOf 31 = 1 := by kernel_rfl
  match ys, hyl, hf with
  | [y0, y1, y2, y3, y4, y5, y6], _, hf =>
   have h0 : DataW.trod enc Tryz.prog w 0 (fun _ => true) held n' 3 [c0] = some y0 := by have := hf 0 _ rfl; simpa [e3, e4, cellsRects9] using this
   have h1 : DataW.trod enc Tryz.prog w 0 (fun _ => true) held n' 3 [c1] = some y1 := by have := hf 1 _ rfl; simpa [e3, e4, cellsRects9] using this
   have h2 : DataW.trod enc Tryz.prog w 0 (fun _ => true) held n' 3 [c2] = some y2 := by have := hf 2 _ rfl; simpa [e3, e4, cellsRects9] using this
   have h3 : DataW.trod enc Tryz.prog w 0 (fun _ => true) held n' 3 [c3] = some y3 := by have := hf 3 _ rfl; simpa [e3, e4, cellsRects9] using this
   have h4 : DataW.trod enc Tryz.prog w 0 (fun _ => true) held n' 3 [c4] = some y4 := by have := hf 4 _ rfl; simpa [e3, e4, cellsRects9] using this
   have h5 : DataW.trod enc Tryz.prog w 0 (fun _ => true) held n' 30 [c5] = some y5 := by have := hf 5 _ rfl; simpa [e3, e4, cellsRects9] using this
   have h6 : DataW.trod enc Tryz.prog w 0 (fun _ => true) held n' 31 [c6] = some y6 := by have := hf 6 _ rfl; simpa [e3, e4, cellsRects9] using this
   obtain ⟨A0, hA0, _, _⟩ := DataW.trod_int Tryz.underlying3 h0
   obtain ⟨A1, hA1, _, _⟩ := DataW.trod_int Tryz.underlying3 h1
   obtain ⟨A2, hA2, _, _⟩ := DataW.trod_int Tryz.underlying3 h2
   obtain ⟨A3, hA3, _, _⟩ := DataW.trod_int Tryz.underlying3 h3
   obtain ⟨A4, hA4, _, _⟩ := DataW.trod_int Tryz.underlying3 h4
   obtain ⟨R, c, l, hR, hr0, hr1, hr2, hr3⟩ := open_row13 h5
   obtain ⟨Q, d, k, hQ, hq0, hq1, hq2, hq3⟩ := open_irow h6
   obtain rfl : c0 = .int .i64 A0 := by simpa using hA0
   obtain rfl : c1 = .int .i64 A1 := by simpa using hA1
   obtain rfl : c2 = .int .i64 A2 := by simpa using hA2
   obtain rfl : c3 = .int .i64 A3 := by simpa using hA3
   obtain rfl : c4 = .int .i64 A4 := by simpa using hA4
   obtain rfl : c5 = .slice R l.length c := by simpa using hR
   subst hQ
   exact ⟨⟨⟨A0, A1, A2, A3, A4, l, k⟩, ⟨R, c, Q, d⟩⟩, rfl, ⟨hr1, hr2, hr3, hq1, hq2, hq3⟩⟩
theorem each_op13 {a : Addr} {n : Nat} {cs : List Value} {y : DataW H × List MemPlace} (hc : w.cells? 0 a 7 = some cs) (ht : DataW.trod enc Tryz.prog w 0 (fun _ => true) held n 33 cs = some y) :
  ∃ x : OpV, cs = opc x.x x.p ∧ (∀ j u, (opc x.x x.p)[j]? = some u → w.cell? (a.add j) = some u) ∧ OpOI w x.x x.p := by
 obtain ⟨_, hcl, hat⟩ := World.cells?_some hc
 obtain ⟨x, e, h⟩ := op13_of hcl ht
 subst e
 refine ⟨x, rfl, fun j u hu => ?_, h⟩
 have hj : j < 7 := by have := (List.getElem?_eq_some_iff.1 hu).1; simpa [opc] using this
 rw [hat j hj]; exact hu
theorem open_op13 {v : Value} {d : DataW H} {p : List MemPlace} {r : Reach} {b0 : Nat} (hv : Value.okWide Tryz.prog w r b0 33 v) (h : DataW.Trod enc Tryz.prog w 0 (fun _ => true) held 33 v d p) :
  ∃ x : OpV, v = opv x.x x.p ∧ OpOI w x.x x.p := by
 obtain ⟨cs, rfl, hsz⟩ := okWide_struct Tryz.underlying33 hv
 obtain ⟨fuel, hf⟩ := h
 have hl : cs.toList.length = 7 := by rw [Array.length_toList, hsz]; exact cellsOp13
 obtain ⟨x, e, h2⟩ := op13_of (enc := enc) (w := w) (held := held) hl (by simpa [Value.cells] using hf)
 refine ⟨x, ?_, h2⟩
 obtain ⟨cl⟩ := cs
 simp only at e
 rw [e]
 rfl
theorem open_ops13 {v : Value} {d : DataW H} {p : List MemPlace} {r : Reach} {b0 : Nat} (hv : Value.okWide Tryz.prog w r b0 23 v) (h : DataW.Trod enc Tryz.prog w 0 (fun _ => true) held 23 v d p) :
    ∃ (A : Option Addr) (c : Nat) (S : List Op13), v = .slice A S.length c ∧ OpO w A c S := by
  obtain ⟨a0, len0, cap0, rfl⟩ := okWide_slice Tryz.underlying23 hv
  obtain ⟨fuel, hf⟩ := h
  rcases open_slice Tryz.underlying23 hf with ⟨hcs, _⟩ | ⟨a, len, cap, m, n, D, Pl, hcs, _, hl, hm, hmm, _, hi⟩
  · simp [Value.cells] at hcs
    obtain ⟨rfl, rfl, rfl⟩ := hcs
    exact ⟨none, 0, [], rfl, (fun h => absurd h (by simp)), by simp, by omega⟩
  · simp [Value.cells] at hcs
    obtain ⟨rfl, rfl, rfl⟩ := hcs
    simp at hmm
    subst hmm
    rw [cellsOp13] at hi
    obtain ⟨l, hll, hp⟩ := list_of (P := fun i (x : OpV) => (∀ j u, (opc x.x x.p)[j]? = some u → w.cell? ((a.add (i * 7)).add j) = some u) ∧ OpOI w x.x x.p) len0 (fun i hlt => by
        obtain ⟨cs', hc, ht⟩ := hi i (by omega)
        obtain ⟨x, _, h2, h3⟩ := each_op13 hc ht
        exact ⟨x, h2, h3⟩)
    refine ⟨some a, m, opvS l, by rw [opvS_len, hll], fun hn => ?_, by rw [opvS_len]; omega, by unfold maxLen at hm; omega⟩
    rw [opvS_len] at hn
    obtain ⟨b, off, spot⟩ := a
    have hc0 := (hp 0 hn).1
    have h0 := hc0 0 _ rfl
    have hspot : spot = none := by simpa [Addr.add] using World.cell?_spot h0
    subst hspot
    refine ⟨b, off, rfl, ?_, fun j hj => ?_⟩
    · have := World.block_lt_of_cell? w _ h0
      rw [add_at, add_at] at this
      exact this
    · rw [opvS_len] at hj
      obtain ⟨hc, h1⟩ := hp j hj
      have hcc : ∀ q u, (opc l[j].x l[j].p)[q]? = some u → w.cell? ⟨b, off + j * 7 + q, none⟩ = some u := fun q u hu => by
        have := hc q u hu
        rw [add_at, add_at] at this
        exact this
      have e : (opvS l)[j]'(by rw [opvS_len]; exact hj) = l[j].x := by simp [opvS]
      rw [e]
      exact ⟨l[j].p, ⟨hcc 0 _ rfl, hcc 1 _ rfl, hcc 2 _ rfl, hcc 3 _ rfl, hcc 4 _ rfl, hcc 5 _ rfl, hcc 6 _ rfl⟩, h1⟩
end
set_option maxHeartbeats 8000000 in
theorem mfewops_any (A : Option Addr) (cap : Nat) (L : List Op13) (w : World) (h : OpO w A cap L) : Calls Tryz.prog 11 #[.slice A L.length cap] w (BlIs (fewOB L) w) := by
 have HL := Lib.hid h; clear h
 have hlen := HL.out.len
 have HBAD := Lib.hid (fun k (hk : k < L.length) h => fewO_bad (L := L) hk h)
 have HGD := Lib.hid (fewO_good (L := L))
 generalize fewOB L = X at *
 go_enter Tryz.func11, Tryz.ntmps11
 go_wp2_with fail
 go_loopw [3] (fun i wr => ∃ (k : Nat), k ≤ L.length ∧ i = .int .i64 k ∧ Hid (∀ j (hj : j < L.length), j < k → L[j].ar.length ≤ 10 ∧ L[j].ids.length ≤ 8) ∧ Hid (Below w.heap.size w wr)) (fun i _ => L.length - (intOf i).toNat)
 case atStart => exact ⟨0, Nat.zero_le _, rfl, Lib.hid (fun j hj h => by omega), Lib.hid (Below.refl _ _)⟩
 case round =>
  obtain ⟨k, hk, rfl, HN, HB⟩ := hrel
  by_cases hlt : k < L.length
  ·obtain ⟨b, o, p, rfl, hb, hc, hi⟩ := HL.out.at_ hlt
   obtain ⟨x0, x1, x2, x3, x4, x5, x6⟩ := hc.below hb HB.out
   have n0 : (0 : Int) ≤ (k : Int) := by omega
   have n1 : (k : Int) < (L.length : Int) := by omega
   have HY := Lib.hid (HBAD.out k hlt)
   have HNX : Hid (L[k].ar.length ≤ 10 ∧ L[k].ids.length ≤ 8 → ∀ j (hj : j < L.length), j < k + 1 → L[j].ar.length ≤ 10 ∧ L[j].ids.length ≤ 8) := Lib.hid (fun hne j hj hjk => by
    by_cases e : j = k
    ·subst e; exact hne
    ·exact HN.out j hj (by omega))
   clear hc hi
   generalize L[k] = u at *
   generalize u.ar.length = a at *
   generalize u.ids.length = f at *
   by_cases c : 10 < a
   ·have HV := Lib.hid (HY.out (.inl c))
    have s0 : (10 : Int) < (a : Int) := by omega
    clear HY HNX
    go_wp2_with fail
    go_ret
    rw [HV.out]; exact ⟨rfl, by (repeat' first | exact Below.refl _ _ | assumption | (apply below_drewN) | (refine Below.setCell ?_ (by (try simp); (try omega)) _) | (refine Below.alloc ?_ (by (try simp); (try omega)) _) | (refine Below.trans ?_ (Below.mono (Hid.out (by assumption)) (by (try simp); (try omega)))))⟩
   ·have s0 : ¬ (10 : Int) < (a : Int) := by omega
    by_cases d : 8 < f
    ·have HV := Lib.hid (HY.out (.inr d))
     have s1 : (8 : Int) < (f : Int) := by omega
     clear HY HNX
     go_wp2_with fail
     go_ret
     rw [HV.out]; exact ⟨rfl, by (repeat' first | exact Below.refl _ _ | assumption | (apply below_drewN) | (refine Below.setCell ?_ (by (try simp); (try omega)) _) | (refine Below.alloc ?_ (by (try simp); (try omega)) _) | (refine Below.trans ?_ (Below.mono (Hid.out (by assumption)) (by (try simp); (try omega)))))⟩
    ·have s1 : ¬ (8 : Int) < (f : Int) := by omega
     have HN2 := Lib.hid (HNX.out ⟨by omega, by omega⟩)
     clear HY HNX
     go_wp2_with fail
     go_roundw
     case rel => exact ⟨k + 1, by omega, by go_num, HN2, Lib.hid (by (repeat' first | exact Below.refl _ _ | assumption | (apply below_drewN) | (refine Below.setCell ?_ (by (try simp); (try omega)) _) | (refine Below.alloc ?_ (by (try simp); (try omega)) _) | (refine Below.trans ?_ (Below.mono (Hid.out (by assumption)) (by (try simp); (try omega))))))⟩
     case measure => simp [intOf]; omega
  ·obtain rfl : k = L.length := by omega
   have HV := Lib.hid (HGD.out (fun j hj => HN.out j hj hj))
   by_cases c : L.length ≤ 12
   ·have s0 : (L.length : Int) ≤ 12 := by omega
    go_wp2_with fail
    go_ret
    rw [HV.out]; exact ⟨by simp [c], HB.out⟩
   ·have s0 : ¬ (L.length : Int) ≤ 12 := by omega
    go_wp2_with fail
    go_ret
    rw [HV.out]; exact ⟨by simp [c], HB.out⟩
end Go.Proofs.YtngddecpfhlilaaGreat
