/-
  Solids in memory: a list of slabs that can be read, an own list of slabs, what a solid's functions give.
  Contracts of the program's layer 9, 1: isRange, continues, bases, area.
  RegionAlgebra: an append of a slice that was handed in, and what the sets say.
-/
import Derived.Test.YtdnoadngfkiabaaP910
import Derived.Test.YtdnoadngfkiabaaP911
import Derived.Test.YtdnoadngfkiabaaP901
import Derived.IntWalk
import Derived.Test.YtdnoadngfkiabaaP900
import Derived.Laws.AppendOwnNone
set_option linter.unusedVariables false
set_option maxRecDepth 100000
namespace Go.Proofs.Ytdnoadngfkiabaa
open Go.RowKit

/-- a list of slabs that can be read. -/
def SlRow (w : World) (A : Option Addr) (S : List Sl) : Prop := 0 < S.length → ∃ b off, A = some ⟨b, off, none⟩ ∧ b < w.heap.size ∧ ∀ j (h : j < S.length), w.cell? ⟨b, off + j * 3, none⟩ = some (.int .i64 S[j].z0) ∧ w.cell? ⟨b, off + j * 3 + 1, none⟩ = some (.int .i64 S[j].z1) ∧ ∃ Aj cj, w.cell? ⟨b, off + j * 3 + 2, none⟩ = some (.slice Aj S[j].ar.length cj) ∧ RIn w Aj cj S[j].ar
theorem SlRow.below {w w' : World} {A : Option Addr} {S : List Sl} (h : SlRow w A S) (hb : Below w.heap.size w w') : SlRow w' A S := fun h0 => by
  obtain ⟨b, off, e, hl, hc⟩ := h h0
  refine ⟨b, off, e, Nat.lt_of_lt_of_le hl hb.size, fun j hj => ?_⟩
  obtain ⟨c0, c1, Aj, cj, c2, hr⟩ := hc j hj
  have wc := fun o => hb.cell (p := ⟨b, o, none⟩) hl
  exact ⟨(wc _).trans c0, (wc _).trans c1, Aj, cj, (wc _).trans c2, hr.below hb⟩
theorem SlRow.nil (w : World) (A : Option Addr) : SlRow w A [] := fun h => absurd h (by simp)
/-- a list of slabs at a slice, as contracts ask it. -/
structure SIn (w : World) (A : Option Addr) (cap : Nat) (S : List Sl) : Prop where
  row : SlRow w A S
  len : S.length ≤ 1099511627776
  room : S.length ≤ cap
  room2 : cap ≤ 9223372036854775807
theorem SIn.below {w w' : World} {A : Option Addr} {cap : Nat} {S : List Sl} (h : SIn w A cap S) (hb : Below w.heap.size w w') : SIn w' A cap S := ⟨h.row.below hb, h.len, h.room, h.room2⟩
theorem SIn.nil (w : World) : SIn w none 0 [] := ⟨SlRow.nil _ _, by simp, by simp, by omega⟩
/-- a solid and an error. -/
def SolRes (x : List Sl × Int) (w : World) (e : Ending) (w' : World) : Prop := ∃ A c, e = .returned (.tuple #[.slice A x.1.length c, .int .i64 x.2]) ∧ SIn w' A c x.1 ∧ Below w.heap.size w w'
/-! ### an own list of slabs -/
theorem infoSlab : (Try.prog.info? 50).map (fun i => (i.zero, i.size, i.bytes)) = some (some (.agg #[.int .i64 0, .int .i64 0, .slice none 0 0]), 3, 40) := by kernel_rfl
structure SlV where
  s : Sl
  A : Option Addr
  c : Nat
def svc (t : SlV) : List Value := [.int .i64 t.s.z0, .int .i64 t.s.z1, .slice t.A t.s.ar.length t.c]
def svcells (L : List SlV) : List Value := L.flatMap svc
def svS (L : List SlV) : List Sl := L.map (·.s)
theorem svS_len (L : List SlV) : (svS L).length = L.length := by simp [svS]
theorem svS_append (L M : List SlV) : svS (L ++ M) = svS L ++ svS M := by simp [svS]
theorem svcells_append (L M : List SlV) : svcells (L ++ M) = svcells L ++ svcells M := by simp [svcells]
theorem svcells_len (L : List SlV) : (svcells L).length = L.length * 3 := by
  induction L with
  | nil => rfl
  | cons t L ih => rw [show svcells (t :: L) = svc t ++ svcells L from rfl, List.length_append, ih]; simp [svc]; omega
theorem svcells_at : ∀ (L : List SlV) (j : Nat) (h : j < L.length), (svcells L)[j * 3]? = some (.int .i64 L[j].s.z0) ∧ (svcells L)[j * 3 + 1]? = some (.int .i64 L[j].s.z1) ∧ (svcells L)[j * 3 + 2]? = some (.slice L[j].A L[j].s.ar.length L[j].c) := by
  intro L
  induction L with
  | nil => intro j h; exact absurd h (by simp)
  | cons t L ih =>
    intro j h
    have e : svcells (t :: L) = .int .i64 t.s.z0 :: .int .i64 t.s.z1 :: .slice t.A t.s.ar.length t.c :: svcells L := rfl
    rw [e]
    cases j with
    | zero => exact ⟨rfl, rfl, rfl⟩
    | succ j =>
      obtain ⟨h0, h1, h2⟩ := ih j (by simp at h; omega)
      rw [show (j + 1) * 3 = j * 3 + 1 + 1 + 1 by omega]
      simp only [List.getElem?_cons_succ, List.getElem_cons_succ]
      exact ⟨h0, h1, h2⟩
structure SW (v : Value) (L : List SlV) (w wr : World) : Prop where
  own : wr.ownsRow w.heap.size 50 3 v L.length (svcells L)
  ar : ∀ t ∈ L, wr.ownsRow w.heap.size 43 4 (.slice t.A t.s.ar.length t.c) t.s.ar.length (rcells t.s.ar)
  bel : Below w.heap.size w wr
theorem SW.go {v : Value} {L : List SlV} {w wr w' : World} (h : SW v L w wr) (hb : Below wr.heap.size wr w') : SW v L w w' := ⟨own_go h.own hb, fun t ht => own_go (h.ar t ht) hb, h.bel.trans (hb.mono h.bel.size)⟩
theorem SW.nil (w : World) : SW (.slice none 0 0) [] w w := ⟨World.ownsRow_nil _ _ _ _, fun t ht => (by cases ht), Below.refl _ _⟩
theorem SW.start {w wr : World} (h : Below w.heap.size w wr) : SW (.slice none 0 0) [] w wr := ⟨World.ownsRow_nil _ _ _ _, fun t ht => (by cases ht), h⟩
theorem SW.app {v v' : Value} {L : List SlV} {t : SlV} {w wr w' : World} (h : SW v L w wr) (ht : wr.ownsRow w.heap.size 43 4 (.slice t.A t.s.ar.length t.c) t.s.ar.length (rcells t.s.ar))
    (ho : w'.ownsRow w.heap.size 50 3 v' (L.length + 1) (svcells L ++ svc t)) (hg : wr.grownBy w' v.ownBlock) : SW v' (L ++ [t]) w w' := by
  refine ⟨?_, fun u hu => ?_, h.bel.grown hg h.bel.size (fun k hk => (h.own.lt k hk).1)⟩
  · rw [List.length_append, svcells_append]
    rw [show svcells [t] = svc t by simp [svcells]]
    exact ho
  · rcases List.mem_append.1 hu with hu | hu
    · exact own_kept h.own (h.ar u hu) (by decide) hg
    · rw [List.mem_singleton] at hu; subst hu; exact own_kept h.own ht (by decide) hg
theorem svcells_last (L : List SlV) (p : SlV) (x : Int) : (svcells (L ++ [p])).set (L.length * 3 + 1) (.int .i64 x) = svcells (L ++ [⟨⟨p.s.z0, x, p.s.ar⟩, p.A, p.c⟩]) := by
  rw [svcells_append, svcells_append, List.set_append_right _ _ (by rw [svcells_len]; omega), svcells_len]
  rw [show L.length * 3 + 1 - L.length * 3 = 1 by omega]
  simp [svcells, svc]
theorem SW.setz {v : Value} {L : List SlV} {p : SlV} {w wr : World} (h : SW v (L ++ [p]) w wr) {g cap : Nat} (hv : v = .slice (some ⟨g, 0, none⟩) (L.length + 1) cap) (x : Int) : SW v (L ++ [⟨⟨p.s.z0, x, p.s.ar⟩, p.A, p.c⟩]) w (wr.setCell ⟨g, L.length * 3 + 1, none⟩ (.int .i64 x)) := by
  subst hv
  have hg := (h.own.lt g rfl).1
  have ho := h.own
  rw [show (L ++ [p]).length = L.length + 1 by simp] at ho
  obtain ⟨h1, h2⟩ := ho.stored (L.length * 3 + 1) (.int .i64 x)
  have ha : ∀ u ∈ L ++ [p], (wr.setCell ⟨g, L.length * 3 + 1, none⟩ (.int .i64 x)).ownsRow w.heap.size 43 4 (.slice u.A u.s.ar.length u.c) u.s.ar.length (rcells u.s.ar) := fun u hu => own_stays (h.ar u hu) (fun k hk => set_other _ _ _ _ (fun e => by
    simp only at e
    subst e
    exact own_apart (h.ar u hu) ho (by decide) _ hk rfl))
  refine ⟨?_, fun u hu => ?_, h.bel.setCell hg _⟩
  · rw [svcells_last] at h1
    rw [show (L ++ [(⟨⟨p.s.z0, x, p.s.ar⟩, p.A, p.c⟩ : SlV)]).length = L.length + 1 by simp]
    exact h1
  · rcases List.mem_append.1 hu with hu | hu
    · exact ha u (List.mem_append_left _ hu)
    · rw [List.mem_singleton] at hu; subst hu; exact ha p (by simp)
/-- the cells of a slab of an own list. -/
theorem SW.cells {v : Value} {L : List SlV} {w wr : World} (h : SW v L w wr) : ∃ A cap, v = .slice A L.length cap ∧ L.length ≤ cap ∧ cap ≤ 9223372036854775807 ∧ (0 < L.length → ∃ g, A = some ⟨g, 0, none⟩ ∧ w.heap.size ≤ g ∧ g < wr.heap.size ∧ ∀ j (hj : j < L.length), wr.cell? ⟨g, j * 3, none⟩ = some (.int .i64 L[j].s.z0) ∧ wr.cell? ⟨g, j * 3 + 1, none⟩ = some (.int .i64 L[j].s.z1) ∧ wr.cell? ⟨g, j * 3 + 2, none⟩ = some (.slice L[j].A L[j].s.ar.length L[j].c)) := by
  have hh := h.own
  have hlt := hh.lt
  obtain ⟨h1, h2⟩ := h.own
  rcases h2 with ⟨rfl, h3⟩ | ⟨g, cap, cur, rfl, hB, hg, h4⟩
  · exact ⟨none, 0, by rw [h3], by omega, by omega, fun h => by omega⟩
  · refine ⟨_, cap, rfl, h4.1, ?_, fun _ => ⟨g, rfl, hB, (hlt g rfl).2, fun j hj => ?_⟩⟩
    · have := h4.2.1; unfold maxLen at this; omega
    · have c := fun i (hi : i < L.length * 3) => World.ownsRow.cellAt hh i hi
      obtain ⟨e0, e1, e2⟩ := svcells_at L j hj
      exact ⟨(c _ (by omega)).trans e0, (c _ (by omega)).trans e1, (c _ (by omega)).trans e2⟩
theorem own_rin {w : World} {B : Nat} {A : Option Addr} {c : Nat} {l : List Rc} (h : w.ownsRow B 43 4 (.slice A l.length c) l.length (rcells l)) (hl : l.length ≤ 1099511627776) : RIn w A c l := by
  obtain ⟨A', c', e, h1, h2, h3, _⟩ := own_rects h
  injection e with e1 _ e2
  subst e1; subst e2
  exact ⟨h1, hl, h2, h3⟩
theorem SW.sin {v : Value} {L : List SlV} {w wr : World} (h : SW v L w wr) (hl : L.length ≤ 1099511627776) (ha : ∀ t ∈ L, t.s.ar.length ≤ 1099511627776) : ∃ A cap, v = .slice A (svS L).length cap ∧ SIn wr A cap (svS L) := by
  obtain ⟨A, cap, rfl, h1, h2, h3⟩ := h.cells
  refine ⟨A, cap, by rw [svS_len], fun h0 => ?_, by rw [svS_len]; exact hl, by rw [svS_len]; exact h1, h2⟩
  rw [svS_len] at h0
  obtain ⟨g, rfl, _, hg, hc⟩ := h3 h0
  refine ⟨g, 0, rfl, hg, fun j hj => ?_⟩
  rw [svS_len] at hj
  obtain ⟨c0, c1, c2⟩ := hc j hj
  have e : (svS L)[j]'(by rw [svS_len]; exact hj) = L[j].s := by simp [svS]
  rw [Nat.zero_add, e]
  exact ⟨c0, c1, _, _, c2, own_rin (h.ar _ (List.getElem_mem hj)) (ha _ (List.getElem_mem hj))⟩
end Go.Proofs.Ytdnoadngfkiabaa
namespace Go.Proofs.Ytdnoadngfkiabaa
open Go.RowKit

theorem bisr_any (a b : Int) (w : World) : Calls Try.prog 33 #[.int .i64 a, .int .i64 b] w (BlIs (decide (HOk a b)) w) := by
  by_cases c0 : 0 ≤ a
  · by_cases c1 : a < b
    · by_cases c2 : b ≤ 4096
      · rw [show decide (HOk a b) = true from decide_eq_true ⟨c0, c1, c2⟩]
        go_enter Try.func33, Try.ntmps33
        go_wp2
        go_ret
        exact ⟨rfl, by (repeat' first | exact Below.refl _ _ | assumption | (apply below_drewN) | (refine Below.setCell ?_ (by (try simp); (try omega)) _) | (refine Below.alloc ?_ (by (try simp); (try omega)) _) | (refine Below.trans ?_ (Below.mono (Hid.out (by assumption)) (by (try simp); (try omega)))))⟩
      · rw [show decide (HOk a b) = false from decide_eq_false (fun h => c2 h.2.2)]
        go_enter Try.func33, Try.ntmps33
        go_wp2
        go_ret
        exact ⟨by first | rfl | (apply ret_bl; rw [decide_eq_false_iff_not]; omega), by (repeat' first | exact Below.refl _ _ | assumption | (apply below_drewN) | (refine Below.setCell ?_ (by (try simp); (try omega)) _) | (refine Below.alloc ?_ (by (try simp); (try omega)) _) | (refine Below.trans ?_ (Below.mono (Hid.out (by assumption)) (by (try simp); (try omega)))))⟩
    · rw [show decide (HOk a b) = false from decide_eq_false (fun h => c1 h.2.1)]
      go_enter Try.func33, Try.ntmps33
      go_wp2
      go_ret
      exact ⟨by first | rfl | (apply ret_bl; rw [decide_eq_false_iff_not]; omega), by (repeat' first | exact Below.refl _ _ | assumption | (apply below_drewN) | (refine Below.setCell ?_ (by (try simp); (try omega)) _) | (refine Below.alloc ?_ (by (try simp); (try omega)) _) | (refine Below.trans ?_ (Below.mono (Hid.out (by assumption)) (by (try simp); (try omega)))))⟩
  · rw [show decide (HOk a b) = false from decide_eq_false (fun h => c0 h.1)]
    go_enter Try.func33, Try.ntmps33
    go_wp2
    go_ret
    exact ⟨by first | rfl | (apply ret_bl; rw [decide_eq_false_iff_not]; omega), by (repeat' first | exact Below.refl _ _ | assumption | (apply below_drewN) | (refine Below.setCell ?_ (by (try simp); (try omega)) _) | (refine Below.alloc ?_ (by (try simp); (try omega)) _) | (refine Below.trans ?_ (Below.mono (Hid.out (by assumption)) (by (try simp); (try omega)))))⟩
set_option maxHeartbeats 4000000 in
theorem bcont_any (a0 a1 b0 b1 : Int) (A1 : Option Addr) (c1 : Nat) (A2 : Option Addr) (c2 : Nat) (l m : List Rc) (w : World) (h1 : RRow w A1 l) (h2 : RRow w A2 m) (hl : l.length ≤ 1099511627776) (hm : m.length ≤ 1099511627776) :
    Calls Try.prog 44 #[.agg #[.int .i64 a0, .int .i64 a1, .slice A1 l.length c1], .agg #[.int .i64 b0, .int .i64 b1, .slice A2 m.length c2]] w (BlIs (decide (a1 = b0 ∧ l = m)) w) := by
  by_cases e : a1 = b0
  · have HS := Lib.hid (fun w' (hb : Below w.heap.size w w') => gsame_any A1 c1 A2 c2 l m w' (h1.below hb) (h2.below hb) hl hm)
    have E : Hid (decide (a1 = b0 ∧ l = m) = decide (l = m)) := Lib.hid (by simp [e])
    have d : (a1 == b0) = true := by simp [e]
    clear h1 h2 e
    rw [E.out]
    generalize decide (l = m) = r at *
    go_enter Try.func44, Try.ntmps44
    go_wp2_with fail
    refine (HS.out _ (by (repeat' first | exact Below.refl _ _ | assumption | (apply below_drewN) | (refine Below.setCell ?_ (by (try simp); (try omega)) _) | (refine Below.alloc ?_ (by (try simp); (try omega)) _) | (refine Below.trans ?_ (Below.mono (Hid.out (by assumption)) (by (try simp); (try omega))))))).mono ?_
    rintro e1 w1 ⟨rfl, hb1⟩
    have HB : Hid (Below w.heap.size w w1) := Lib.hid ((show Below w.heap.size w _ from by (repeat' first | exact Below.refl _ _ | assumption | (apply below_drewN) | (refine Below.setCell ?_ (by (try simp); (try omega)) _) | (refine Below.alloc ?_ (by (try simp); (try omega)) _) | (refine Below.trans ?_ (Below.mono (Hid.out (by assumption)) (by (try simp); (try omega)))))).trans (hb1.mono (by simp; try omega)))
    clear hb1 HS
    go_wp2_with fail
    go_ret
    exact ⟨rfl, HB.out⟩
  · have d : (a1 == b0) = false := by simp [e]
    rw [show decide (a1 = b0 ∧ l = m) = false from decide_eq_false (fun h => e h.1)]
    clear h1 h2 e
    go_enter Try.func44, Try.ntmps44
    go_wp2_with fail
    go_ret
    exact ⟨rfl, by (repeat' first | exact Below.refl _ _ | assumption | (apply below_drewN) | (refine Below.setCell ?_ (by (try simp); (try omega)) _) | (refine Below.alloc ?_ (by (try simp); (try omega)) _) | (refine Below.trans ?_ (Below.mono (Hid.out (by assumption)) (by (try simp); (try omega)))))⟩
/-- a list of boxes that can be read. -/
def BxRow (w : World) (A : Option Addr) (l : List Bx) : Prop := 0 < l.length → ∃ b off, A = some ⟨b, off, none⟩ ∧ b < w.heap.size ∧ ∀ j (h : j < l.length), w.cell? ⟨b, off + j * 6, none⟩ = some (.int .i64 l[j].r.X0) ∧ w.cell? ⟨b, off + j * 6 + 1, none⟩ = some (.int .i64 l[j].r.Y0) ∧ w.cell? ⟨b, off + j * 6 + 2, none⟩ = some (.int .i64 l[j].r.X1) ∧ w.cell? ⟨b, off + j * 6 + 3, none⟩ = some (.int .i64 l[j].r.Y1) ∧ w.cell? ⟨b, off + j * 6 + 4, none⟩ = some (.int .i64 l[j].z0) ∧ w.cell? ⟨b, off + j * 6 + 5, none⟩ = some (.int .i64 l[j].z1)
theorem BxRow.below {w w' : World} {A : Option Addr} {l : List Bx} (h : BxRow w A l) (hb : Below w.heap.size w w') : BxRow w' A l := fun h0 => by
  obtain ⟨b, off, e, hl, hc⟩ := h h0
  refine ⟨b, off, e, Nat.lt_of_lt_of_le hl hb.size, fun j hj => ?_⟩
  obtain ⟨c0, c1, c2, c3, c4, c5⟩ := hc j hj
  have wc := fun o => hb.cell (p := ⟨b, o, none⟩) hl
  exact ⟨(wc _).trans c0, (wc _).trans c1, (wc _).trans c2, (wc _).trans c3, (wc _).trans c4, (wc _).trans c5⟩
theorem BxRow.nil (w : World) (A : Option Addr) : BxRow w A [] := fun h => absurd h (by simp)
theorem bases_next (l : List Bx) (z : Int) (k : Nat) (h : k < l.length) : basesB (l.take (k + 1)) z = basesB (l.take k) z ++ (if l[k].z0 ≤ z ∧ z < l[k].z1 then [l[k].r] else []) := by
  rw [List.take_succ_eq_append_getElem h, bases_append]
  congr 1
/-- own rectangles behind a world. -/
def RcRes (F : List Rc) (w : World) (e : Ending) (w' : World) : Prop := ∃ v, e = .returned v ∧ w'.ownsRow w.heap.size 43 4 v F.length (rcells F) ∧ Below w.heap.size w w'
structure GW9 (v : Value) (F : List Rc) (w wr : World) : Prop where
  own : wr.ownsRow w.heap.size 43 4 v F.length (rcells F)
  bel : Below w.heap.size w wr
set_option maxHeartbeats 16000000 in
theorem bbases_any (A : Option Addr) (cap : Nat) (l : List Bx) (z : Int) (w : World) (h1 : BxRow w A l) (hl : l.length ≤ 1000000) :
    Calls Try.prog 37 #[.slice A l.length cap, .int .i64 z] w (RcRes (basesB l z) w) := by
  have H1 := Lib.hid h1; clear h1
  have K0 : Hid (GW9 (.slice none 0 0) (basesB (l.take 0) z) w w) := Lib.hid ⟨World.ownsRow_nil _ _ _ _, Below.refl _ _⟩
  obtain ⟨i0, hi9, hz0, hz1, hz2⟩ := info_parts infoRect
  go_enter Try.func37, Try.ntmps37
  go_wp2
  go_loopw [5, 10] (fun v i wr => ∃ (k : Nat) (v0 : Value), k ≤ l.length ∧ i = .int .i64 k ∧ v0 = v ∧ Hid (GW9 v0 (basesB (l.take k) z) w wr)) (fun _ i _ => l.length - (intOf i).toNat)
  case atStart => exact ⟨0, _, Nat.zero_le _, rfl, rfl, K0⟩
  case round =>
    clear K0
    obtain ⟨k, v, hk, rfl, rfl, HK⟩ := hrel
    by_cases hlt : k < l.length
    · obtain ⟨b1, o1, rfl, hb1, hv1⟩ := H1.out (by omega)
      obtain ⟨x0, x1, x2, x3, x4, x5⟩ := hv1 k hlt
      have wc := fun o => HK.out.bel.cell (p := ⟨b1, o, none⟩) hb1
      have x0 := (wc _).trans x0; have x1 := (wc _).trans x1; have x2 := (wc _).trans x2; have x3 := (wc _).trans x3; have x4 := (wc _).trans x4; have x5 := (wc _).trans x5
      have hbs := HK.out.bel.size
      have hbw : b1 < wr.heap.size := Nat.lt_of_lt_of_le hb1 hbs
      have n0 : (0 : Int) ≤ (k : Int) := by omega
      have n1 : (k : Int) < (l.length : Int) := by omega
      have HN := Lib.hid (bases_next l z k hlt)
      have hfl := bases_len (l.take k) z
      rw [List.length_take] at hfl
      have hfl : (basesB (l.take k) z).length ≤ 1000000 := by omega
      clear hv1 wc
      obtain ⟨u, hu⟩ : ∃ u, u = l[k] := ⟨_, rfl⟩
      rw [← hu] at x0 x1 x2 x3 x4 x5 HN
      clear hu
      generalize basesB (l.take k) z = F at *
      by_cases ca : u.z0 ≤ z
      · by_cases cb : z < u.z1
        · have HN2 : Hid (basesB (l.take (k + 1)) z = F ++ [u.r]) := Lib.hid (by rw [HN.out, if_pos ⟨ca, cb⟩])
          have HO := Lib.hid HK.out.own
          clear HN
          go_wp2_with (at_builtin; refine wpList_append_own _ rfl _ _ 48 rfl w.heap.size 43 i0 (.agg #[.int .i64 0, .int .i64 0, .int .i64 0, .int .i64 0]) 4 32 Try.underlying48 hi9 hz0 hz1 hz2 rfl (by decide) _ _ _ rfl ((HO.out.alloc _).alloc _) ⟨wr.heap.size + 1, 0, none⟩ 1 1 [.int .i64 u.r.X0, .int .i64 u.r.Y0, .int .i64 u.r.X1, .int .i64 u.r.Y1] rfl rfl ?c1 ?c2 ?c3 ?c4 ?c5 ?_)
          case c1 =>
            intro t u ht
            match t, ht with
            | 0, ht => simp at ht; subst ht; simp [Addr.add]
            | 1, ht => simp at ht; subst ht; simp [Addr.add]
            | 2, ht => simp at ht; subst ht; simp [Addr.add]
            | 3, ht => simp at ht; subst ht; simp [Addr.add]
          case c2 => intro u hu; simp only [List.mem_cons, List.not_mem_nil, or_false] at hu; rcases hu with rfl | rfl | rfl | rfl <;> rfl
          case c3 => unfold maxLen; omega
          case c4 => omega
          case c5 => simp; omega
          intro v' w4 hown' hgr _
          have HX : Hid (GW9 v' (basesB (l.take (k + 1)) z) w w4) := Lib.hid ⟨by rw [HN2.out, rcells_append, List.length_append]; exact hown', Below.grown ((HK.out.bel.alloc hbs _).alloc (by simp; omega) _) hgr (by simp; omega) (fun k hk => (HO.out.lt k hk).1)⟩
          clear hown' hgr HO HK HN2 x0 x1 x2 x3 x4 x5
          go_wp2_with fail
          go_roundw
          case rel => exact ⟨k + 1, _, by omega, by go_num, rfl, HX⟩
          case measure => simp [intOf]; omega
        · have HX : Hid (∀ o, GW9 v (basesB (l.take (k + 1)) z) w (wr.alloc o)) := Lib.hid (fun o => ⟨by rw [HN.out, if_neg (fun h => cb h.2), List.append_nil]; exact HK.out.own.alloc _, HK.out.bel.alloc hbs _⟩)
          clear HN HK
          go_wp2_with fail
          go_roundw
          case rel => exact ⟨k + 1, _, by omega, by go_num, rfl, Lib.hid (HX.out _)⟩
          case measure => simp [intOf]; omega
      · have HX : Hid (∀ o, GW9 v (basesB (l.take (k + 1)) z) w (wr.alloc o)) := Lib.hid (fun o => ⟨by rw [HN.out, if_neg (fun h => ca h.1), List.append_nil]; exact HK.out.own.alloc _, HK.out.bel.alloc hbs _⟩)
        clear HN HK
        go_wp2_with fail
        go_roundw
        case rel => exact ⟨k + 1, _, by omega, by go_num, rfl, Lib.hid (HX.out _)⟩
        case measure => simp [intOf]; omega
    · obtain rfl : k = l.length := by omega
      have HX : Hid (GW9 v (basesB l z) w wr) := Lib.hid (by have := HK.out; rw [List.take_length] at this; exact this)
      clear HK
      go_wp2_with fail
      go_ret
      exact ⟨_, rfl, HX.out.own, HX.out.bel⟩
end Go.Proofs.Ytdnoadngfkiabaa
namespace Go.Proofs.Ytdnoadngfkiabaa
open Go.RowKit

/-! ### the sets -/
/-- a set of cells and its form. -/
structure FS (F : List Rc) (S : Int → Int → Prop) : Prop where
  form : IsForm F
  cells : ∀ x y, HasL F x y ↔ S x y
theorem FS.eq {F G : List Rc} {S S' : Int → Int → Prop} (h : FS F S) (k : FS G S') (e : ∀ x y, S x y ↔ S' x y) : F = G := form_eq h.form k.form (fun x y => by rw [h.cells, k.cells, e])
theorem FS.ok {F : List Rc} {S : Int → Int → Prop} (h : FS F S) : ∀ r ∈ F, ROk r := form_ok h.form
theorem cap_le {F : List Rc} (h : F.length ≤ 200) : capR F = (F, 0) := if_pos h
end Go.Proofs.Ytdnoadngfkiabaa
