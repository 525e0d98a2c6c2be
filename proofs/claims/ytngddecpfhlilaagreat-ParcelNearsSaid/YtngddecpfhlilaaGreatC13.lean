/-
  Lots in memory (layer 13): a list of lots that can be read, an own list of lots.
  Contracts of the program's layer 8 (6): the sort and the compaction that changes calls (the library's).
  What contracts over points, sides and lists of them say (layer 7).
  Contracts of the program's layer 7: compare, and the library's ContainsFunc and MinFunc over points.
  Contracts of the program's layer 7 (2): the library's ContainsFunc and MinFunc over points.
-/
import Derived.Test.YtngddecpfhlilaaGreatC12
import Derived.Test.YtngddecpfhlilaaGreatC05
import Derived.Test.YtngddecpfhlilaaGreatC09
import Derived.Test.YtngddecpfhlilaaGreatWs
import Derived.Lib.MinMax
import Derived.Deep.RegionHeld3
import Derived.Lib.AppendIntMem
set_option linter.unusedVariables false
set_option maxRecDepth 100000
namespace Go.Proofs.YtngddecpfhlilaaGreat
open Go.RowKit
structure NIn (w : World) (A : Option Addr) (cap : Nat) (l : List Int) : Prop where
 row : IRow w A l
 len : l.length ≤ 1099511627776
 room : l.length ≤ cap
 room2 : cap ≤ 9223372036854775807
theorem NIn.below {w w' : World} {A : Option Addr} {cap : Nat} {l : List Int} (h : NIn w A cap l) (hb : Below w.heap.size w w') : NIn w' A cap l := ⟨h.row.below hb, h.len, h.room, h.room2⟩
theorem NIn.nil (w : World) : NIn w none 0 [] := ⟨IRow.nil _ _, by simp, by simp, by omega⟩
structure LtP where
 A : Option Addr
 c : Nat
 B : Option Addr
 d : Nat
def lvl (t : Lt) (p : LtP) : Value := .agg #[.int .i64 t.id, .int .i64 t.ow, .slice p.A t.ar.length p.c, .slice p.B t.fr.length p.d]
structure LtI (w : World) (t : Lt) (p : LtP) : Prop where
 ar : RIn w p.A p.c t.ar
 fr : NIn w p.B p.d t.fr
 an : p.A = none → p.c = 0
 bn : p.B = none → p.d = 0
theorem LtI.below {w w' : World} {t : Lt} {p : LtP} (h : LtI w t p) (hb : Below w.heap.size w w') : LtI w' t p := ⟨h.ar.below hb, h.fr.below hb, h.an, h.bn⟩
def LtC (w : World) (b o : Nat) (t : Lt) (p : LtP) : Prop := w.cell? ⟨b, o, none⟩ = some (.int .i64 t.id) ∧ w.cell? ⟨b, o + 1, none⟩ = some (.int .i64 t.ow) ∧ w.cell? ⟨b, o + 2, none⟩ = some (.slice p.A t.ar.length p.c) ∧ w.cell? ⟨b, o + 3, none⟩ = some (.slice p.B t.fr.length p.d)
def LtRow (w : World) (A : Option Addr) (L : List Lt) : Prop := 0 < L.length → ∃ b off, A = some ⟨b, off, none⟩ ∧ b < w.heap.size ∧ ∀ j (h : j < L.length), ∃ p, LtC w b (off + j * 4) L[j] p ∧ LtI w L[j] p
theorem LtC.below {w w' : World} {b o : Nat} {t : Lt} {p : LtP} (h : LtC w b o t p) (hl : b < w.heap.size) (hb : Below w.heap.size w w') : LtC w' b o t p := by
 have wc := fun i => hb.cell (p := ⟨b, i, none⟩) hl
 exact ⟨(wc _).trans h.1, (wc _).trans h.2.1, (wc _).trans h.2.2.1, (wc _).trans h.2.2.2⟩
theorem LtRow.below {w w' : World} {A : Option Addr} {L : List Lt} (h : LtRow w A L) (hb : Below w.heap.size w w') : LtRow w' A L := fun h0 => by
 obtain ⟨b, off, e, hl, hc⟩ := h h0
 refine ⟨b, off, e, Nat.lt_of_lt_of_le hl hb.size, fun j hj => ?_⟩
 obtain ⟨p, hp, hi⟩ := hc j hj
 exact ⟨p, hp.below hl hb, hi.below hb⟩
structure LtIn (w : World) (A : Option Addr) (cap : Nat) (L : List Lt) : Prop where
 row : LtRow w A L
 len : L.length ≤ 1099511627776
 room : L.length ≤ cap
 room2 : cap ≤ 9223372036854775807
theorem LtIn.below {w w' : World} {A : Option Addr} {cap : Nat} {L : List Lt} (h : LtIn w A cap L) (hb : Below w.heap.size w w') : LtIn w' A cap L := ⟨h.row.below hb, h.len, h.room, h.room2⟩
theorem LtIn.nil (w : World) : LtIn w none 0 [] := ⟨(fun h => absurd h (by simp)), by simp, by simp, by omega⟩
theorem LtIn.at_ {w : World} {A : Option Addr} {cap : Nat} {L : List Lt} (h : LtIn w A cap L) {j : Nat} (hj : j < L.length) : ∃ b off p, A = some ⟨b, off, none⟩ ∧ b < w.heap.size ∧ LtC w b (off + j * 4) L[j] p ∧ LtI w L[j] p := by
 obtain ⟨b, off, e, hl, hc⟩ := h.row (by omega)
 obtain ⟨p, hp, hi⟩ := hc j hj
 exact ⟨b, off, p, e, hl, hp, hi⟩
def LtAt (w : World) (b : Nat) (t : Lt) (p : LtP) : Prop := w.heap[b]? = some (.cells #[.int .i64 t.id, .int .i64 t.ow, .slice p.A t.ar.length p.c, .slice p.B t.fr.length p.d] 40 (0, 0))
theorem LtAt.lt {w : World} {b : Nat} {t : Lt} {p : LtP} (h : LtAt w b t p) : b < w.heap.size := (Array.getElem?_eq_some_iff.1 h).1
theorem LtAt.c {w : World} {b : Nat} {t : Lt} {p : LtP} (h : LtAt w b t p) : LtC w b 0 t p := ⟨by rw [Lib.cell_of_heap h]; rfl, by rw [Lib.cell_of_heap h]; rfl, by rw [Lib.cell_of_heap h]; rfl, by rw [Lib.cell_of_heap h]; rfl⟩
theorem LtAt.below {w w' : World} {b : Nat} {t : Lt} {p : LtP} (h : LtAt w b t p) (hb : Below w.heap.size w w') : LtAt w' b t p := (hb.block b h.lt).trans h
theorem LtAt.new (w : World) (t : Lt) (p : LtP) (k : Nat) (h : k = w.heap.size) {n m : Nat} (hn : n = t.ar.length) (hm : m = t.fr.length) : LtAt (w.alloc (.cells #[.int .i64 t.id, .int .i64 t.ow, .slice p.A n p.c, .slice p.B m p.d] 40)) k t p := by subst h; subst hn; subst hm; exact heap_alloc_new w _
theorem infoLot : (Tryz.prog.info? 40).map (fun i => (i.zero, i.size, i.bytes)) = some (some (.agg #[.int .i64 0, .int .i64 0, .slice none 0 0, .slice none 0 0]), 4, 64) := by kernel_rfl
structure LtV where
 t : Lt
 p : LtP
def tvc (x : LtV) : List Value := [.int .i64 x.t.id, .int .i64 x.t.ow, .slice x.p.A x.t.ar.length x.p.c, .slice x.p.B x.t.fr.length x.p.d]
def tvcells (L : List LtV) : List Value := L.flatMap tvc
def tvS (L : List LtV) : List Lt := L.map (·.t)
theorem tvS_len (L : List LtV) : (tvS L).length = L.length := by simp [tvS]
theorem tvS_append (L M : List LtV) : tvS (L ++ M) = tvS L ++ tvS M := by simp [tvS]
theorem tvcells_append (L M : List LtV) : tvcells (L ++ M) = tvcells L ++ tvcells M := by simp [tvcells]
theorem tvcells_at : ∀ (L : List LtV) (j : Nat) (h : j < L.length), (tvcells L)[j * 4]? = some (.int .i64 L[j].t.id) ∧ (tvcells L)[j * 4 + 1]? = some (.int .i64 L[j].t.ow) ∧ (tvcells L)[j * 4 + 2]? = some (.slice L[j].p.A L[j].t.ar.length L[j].p.c) ∧ (tvcells L)[j * 4 + 3]? = some (.slice L[j].p.B L[j].t.fr.length L[j].p.d) := by
 intro L
 induction L with
 | nil => intro j h; exact absurd h (by simp)
 | cons t L ih =>
  intro j h
  cases j with
  | zero => exact ⟨rfl, rfl, rfl, rfl⟩
  | succ j =>
   have := ih j (by simp at h; omega)
   rw [show (j + 1) * 4 = j * 4 + 1 + 1 + 1 + 1 by omega]
   exact this
structure TW (v : Value) (L : List LtV) (w wr : World) : Prop where
 own : wr.ownsRow w.heap.size 40 4 v L.length (tvcells L)
 ar : ∀ x ∈ L, wr.ownsRow w.heap.size 68 4 (.slice x.p.A x.t.ar.length x.p.c) x.t.ar.length (rcells x.t.ar)
 fr : ∀ x ∈ L, wr.ownsRow w.heap.size 3 1 (.slice x.p.B x.t.fr.length x.p.d) x.t.fr.length (icells x.t.fr)
 bel : Below w.heap.size w wr
theorem TW.go {v : Value} {L : List LtV} {w wr w' : World} (h : TW v L w wr) (hb : Below wr.heap.size wr w') : TW v L w w' := ⟨own_go h.own hb, fun x hx => own_go (h.ar x hx) hb, fun x hx => own_go (h.fr x hx) hb, h.bel.trans (hb.mono h.bel.size)⟩
theorem TW.start {w wr : World} (h : Below w.heap.size w wr) : TW (.slice none 0 0) [] w wr := ⟨World.ownsRow_nil _ _ _ _, fun t ht => (by cases ht), fun t ht => (by cases ht), h⟩
theorem TW.app {v v' : Value} {L : List LtV} {x : LtV} {w wr w' : World} (h : TW v L w wr) (ht : wr.ownsRow w.heap.size 68 4 (.slice x.p.A x.t.ar.length x.p.c) x.t.ar.length (rcells x.t.ar)) (hn : wr.ownsRow w.heap.size 3 1 (.slice x.p.B x.t.fr.length x.p.d) x.t.fr.length (icells x.t.fr))
  (ho : w'.ownsRow w.heap.size 40 4 v' (L.length + 1) (tvcells L ++ tvc x)) (hg : wr.grownBy w' v.ownBlock) : TW v' (L ++ [x]) w w' := by
 refine ⟨?_, fun u hu => ?_, fun u hu => ?_, h.bel.grown hg h.bel.size (fun k hk => (h.own.lt k hk).1)⟩
 ·rw [List.length_append, tvcells_append]
  rw [show tvcells [x] = tvc x by simp [tvcells]]
  exact ho
 ·rcases List.mem_append.1 hu with hu | hu
  ·exact own_kept h.own (h.ar u hu) (by decide) hg
  ·rw [List.mem_singleton] at hu; subst hu; exact own_kept h.own ht (by decide) hg
 ·rcases List.mem_append.1 hu with hu | hu
  ·exact own_kept h.own (h.fr u hu) (by decide) hg
  ·rw [List.mem_singleton] at hu; subst hu; exact own_kept h.own hn (by decide) hg
theorem own_nin {w : World} {B : Nat} {A : Option Addr} {c : Nat} {l : List Int} (h : w.ownsRow B 3 1 (.slice A l.length c) l.length (icells l)) (hl : l.length ≤ 1099511627776) : NIn w A c l := by
 obtain ⟨A', c', e, h1⟩ := IRow.of_own h
 injection e with e1 _ e2
 subst e1; subst e2
 obtain ⟨_, h2⟩ := h
 rcases h2 with ⟨e, h3⟩ | ⟨g, cap, cur, e, hB, hg, h4⟩
 ·injection e with e1 e2 e3
  subst e3
  exact ⟨h1, hl, by omega, by omega⟩
 ·injection e with e1 e2 e3
  subst e3
  exact ⟨h1, hl, h4.1, by have := h4.2.1; unfold maxLen at this; omega⟩
theorem TW.cells {v : Value} {L : List LtV} {w wr : World} (h : TW v L w wr) : ∃ A cap, v = .slice A L.length cap ∧ L.length ≤ cap ∧ cap ≤ 9223372036854775807 ∧ (0 < L.length → ∃ g, A = some ⟨g, 0, none⟩ ∧ w.heap.size ≤ g ∧ g < wr.heap.size ∧ ∀ j (hj : j < L.length), LtC wr g (0 + j * 4) L[j].t L[j].p) := by
 have hh := h.own
 have hlt := hh.lt
 obtain ⟨h1, h2⟩ := h.own
 rcases h2 with ⟨rfl, h3⟩ | ⟨g, cap, cur, rfl, hB, hg, h4⟩
 ·exact ⟨none, 0, by rw [h3], by omega, by omega, fun h => by omega⟩
 ·refine ⟨_, cap, rfl, h4.1, ?_, fun _ => ⟨g, rfl, hB, (hlt g rfl).2, fun j hj => ?_⟩⟩
  ·have := h4.2.1; unfold maxLen at this; omega
  ·have c := fun i (hi : i < L.length * 4) => World.ownsRow.cellAt hh i hi
   obtain ⟨e0, e1, e2, e3⟩ := tvcells_at L j hj
   rw [Nat.zero_add]
   exact ⟨(c _ (by omega)).trans e0, (c _ (by omega)).trans e1, (c _ (by omega)).trans e2, (c _ (by omega)).trans e3⟩
theorem own_none {w : World} {B e s n : Nat} {A : Option Addr} {c : Nat} {xs : List Value} (h : w.ownsRow B e s (.slice A n c) n xs) : A = none → c = 0 := by
 intro hA
 subst hA
 rcases h.2 with ⟨e, _⟩ | ⟨g, cap, cur, e, _⟩
 ·injection e
 ·injection e with e1; cases e1
def LtS (t : Lt) : Prop := t.ar.length ≤ 1099511627776 ∧ t.fr.length ≤ 1099511627776
theorem TW.lin {v : Value} {L : List LtV} {w wr : World} (h : TW v L w wr) (hl : L.length ≤ 1099511627776) (ha : ∀ x ∈ L, LtS x.t) : ∃ A cap, v = .slice A (tvS L).length cap ∧ LtIn wr A cap (tvS L) := by
 obtain ⟨A, cap, rfl, h1, h2, h3⟩ := h.cells
 refine ⟨A, cap, by rw [tvS_len], fun h0 => ?_, by rw [tvS_len]; exact hl, by rw [tvS_len]; exact h1, h2⟩
 rw [tvS_len] at h0
 obtain ⟨g, rfl, _, hg, hc⟩ := h3 h0
 refine ⟨g, 0, rfl, hg, fun j hj => ?_⟩
 rw [tvS_len] at hj
 have e : (tvS L)[j]'(by rw [tvS_len]; exact hj) = L[j].t := by simp [tvS]
 rw [e]
 have := ha L[j] (List.getElem_mem hj)
 exact ⟨L[j].p, hc j hj, own_rin (h.ar _ (List.getElem_mem hj)) this.1, own_nin (h.fr _ (List.getElem_mem hj)) this.2, own_none (h.ar _ (List.getElem_mem hj)), own_none (h.fr _ (List.getElem_mem hj))⟩
end Go.Proofs.YtngddecpfhlilaaGreat
namespace Go.Proofs.YtngddecpfhlilaaGreat
open Go.RowKit Go.Shelf Go.Lib Go.Sort
theorem holds_own {w : World} {B g cap : Nat} {l : List Int} (h : w.ownsRow B 3 1 (.slice (some ⟨g, 0, none⟩) l.length cap) l.length (icells l)) : Holds (Value.int .i64) w g 0 l.toArray := fun j hj => by
 have hj' : j < l.length := by simpa using hj
 refine ⟨?_, h.frozenAt _⟩
 rw [Nat.zero_add, h.cellAt j (by omega)]
 simp [icells, hj']
theorem gsort_holds (B g cap : Nat) (l : List Int) (w : World) (h : w.ownsRow B 3 1 (.slice (some ⟨g, 0, none⟩) l.length cap) l.length (icells l)) (hl : l.length ≤ 1099511627776) :
  Calls Tryz.prog 118 #[.slice (some ⟨g, 0, none⟩) l.length cap] w fun e w' => e = .returned (.tuple #[]) ∧ ∃ S : List Int, S.Perm l ∧ SrtN S ∧ Holds (Value.int .i64) w' g 0 S.toArray ∧ w.grownBy w' (some g) := by
 have hg : g < w.heap.size := (h.lt g rfl).2
 have hH := holds_own h
 refine (Go.Proofs.Tryz.slices_Sort_int g 0 cap l w hH hg (by omega)).mono ?_
 rintro e w' ⟨rfl, n, os, rfl⟩
 have hp := List.mergeSort_perm l (fun x y => decide (x ≤ y))
 refine ⟨rfl, l.mergeSort fun x y => decide (x ≤ y), hp, ?_, holds_grow _ _ _ _ _ _ (by simpa using hg) (holds_putRow _ _ _ _ l.toArray _ (holds_ahead _ _ _ _ _ _ hH) (by simp [hp.length_eq])), grownBy_sort⟩
 have hs := List.pairwise_mergeSort (le := fun x y : Int => decide (x ≤ y)) (fun a b c h1 h2 => by simp at *; omega) (fun a b => by simp; omega) l
 intro i j hi hj hij
 rcases Nat.lt_or_ge i j with hlt | hge
 ·have := List.pairwise_iff_getElem.1 hs i j hi hj hlt
  simpa using this
 ·obtain rfl : i = j := by omega
  exact Int.le_refl _
theorem ycompact_any (g cap : Nat) (S : List Int) (w : World) (hH : Holds (Value.int .i64) w g 0 S.toArray) (hg : g < w.heap.size) (hs : SrtN S) (hl : S.length ≤ 1099511627776) (hc : S.length ≤ cap) :
  Calls Tryz.prog 112 #[.slice (some ⟨g, 0, none⟩) S.length cap] w fun e w' => e = .returned (.slice (some ⟨g, 0, none⟩) (Lib.compact S).length cap) ∧ (∀ j (h : j < (Lib.compact S).length), w'.cell? ⟨g, j, none⟩ = some (.int .i64 (Lib.compact S)[j])) ∧ w.grownBy w' (some g) := by
 refine (Go.Proofs.Tryz.slices_Compact_int g 0 cap S w hH (by omega) hc).mono ?_
 rintro e w' ⟨rfl, q, rfl⟩
 have hcl := (compact_is hs).2.2
 refine ⟨rfl, fun j hj => ?_, rfl, rfl, rfl, by simp [putRow, mapBlock, Sort.ahead], fun k hk hne => ?_⟩
 ·have := cell?_putRow (Value.int .i64) (Sort.ahead w q) g 0 S.toArray (Lib.compact S ++ List.replicate (S.length - (Lib.compact S).length) 0).toArray (holds_ahead _ _ _ _ _ _ hH) (by simp; omega) j (by simp; omega)
  rw [Nat.zero_add] at this
  rw [this, getElem!_pos _ j (by simp; omega)]
  simp [hj]
 ·have : k ≠ g := fun e => hne (by rw [e])
  simp [putRow, mapBlock, Sort.ahead, Array.getElem?_modify]; intro e; exact absurd e.symm this
theorem gsort_none (A : Option Addr) (cap : Nat) (w : World) : Calls Tryz.prog 118 #[.slice A 0 cap] w fun e w' => e = .returned (.tuple #[]) ∧ w' = w := Go.Proofs.Tryz.slices_Sort_int_none A cap w
theorem ycompact_none (A : Option Addr) (cap : Nat) (w : World) : Calls Tryz.prog 112 #[.slice A 0 cap] w fun e w' => e = .returned (.slice A 0 cap) ∧ w' = w := Go.Proofs.Tryz.slices_Compact_int_empty A cap w
end Go.Proofs.YtngddecpfhlilaaGreat
namespace Go.Proofs.YtngddecpfhlilaaGreat
open Go.RowKit
structure Pt where
 X : Int
 Y : Int
deriving DecidableEq, Inhabited
def PRow (w : World) (A : Option Addr) (l : List Pt) : Prop := 0 < l.length → ∃ b off, A = some ⟨b, off, none⟩ ∧ b < w.heap.size ∧ ∀ j (h : j < l.length), w.cell? ⟨b, off + j * 2, none⟩ = some (.int .i64 l[j].X) ∧ w.cell? ⟨b, off + j * 2 + 1, none⟩ = some (.int .i64 l[j].Y)
theorem PRow.below {w w' : World} {A : Option Addr} {l : List Pt} (h : PRow w A l) (hb : Below w.heap.size w w') : PRow w' A l := fun h0 => by
 obtain ⟨b, off, rfl, hl, hc⟩ := h h0
 exact ⟨b, off, rfl, Nat.lt_of_lt_of_le hl hb.size, fun j hj => ⟨(hb.cell (p := ⟨b, off + j * 2, none⟩) hl).trans (hc j hj).1, (hb.cell (p := ⟨b, off + j * 2 + 1, none⟩) hl).trans (hc j hj).2⟩⟩
theorem PRow.nil (w : World) (A : Option Addr) : PRow w A [] := fun h => absurd h (by simp)
def orI (x y : Int) : Int := if x = 0 then y else x
theorem or_any (b : Nat) (x y : Int) (w : World) (h0 : w.cell? ⟨b, 0, none⟩ = some (.int .i64 x)) (h1 : w.cell? ⟨b, 1, none⟩ = some (.int .i64 y)) (hb : b < w.heap.size) :
  Calls Tryz.prog 106 #[.slice (some ⟨b, 0, none⟩) 2 2] w fun e w' => e = .returned (.int .i64 (orI x y)) ∧ w' = w := by
 unfold orI
 by_cases c : x = 0
 ·subst c
  by_cases d : y = 0
  ·subst d
   go_enter Tryz.func106, Tryz.ntmps106
   go_wp2
   go_loopw [5, 8] (fun _ i wr => ∃ k : Nat, k ≤ 2 ∧ i = .int .i64 k ∧ wr = w) (fun _ i _ => 2 - (intOf i).toNat)
   case atStart => exact ⟨0, Nat.zero_le _, rfl, rfl⟩
   case round =>
    obtain ⟨k, hk, rfl, rfl⟩ := hrel
    by_cases e0 : k = 0
    ·subst e0
     go_wp2
     go_roundw
     case rel => exact ⟨1, by omega, by go_num, by first | trivial | rfl⟩
     case measure => simp [intOf]
    ·by_cases e1 : k = 1
     ·subst e1
      go_wp2
      go_roundw
      case rel => exact ⟨2, by omega, by go_num, by first | trivial | rfl⟩
      case measure => simp [intOf]
     ·obtain rfl : k = 2 := by omega
      go_wp2
      go_ret
      exact ⟨rfl, rfl⟩
  ·have q1 : (y != 0) = true := by simp [d]
   go_enter Tryz.func106, Tryz.ntmps106
   go_wp2
   go_loopw [5, 8] (fun _ i wr => ∃ k : Nat, k ≤ 1 ∧ i = .int .i64 k ∧ wr = w) (fun _ i _ => 2 - (intOf i).toNat)
   case atStart => exact ⟨0, Nat.zero_le _, rfl, rfl⟩
   case round =>
    obtain ⟨k, hk, rfl, rfl⟩ := hrel
    by_cases e0 : k = 0
    ·subst e0
     go_wp2
     go_roundw
     case rel => exact ⟨1, by omega, by go_num, by first | trivial | rfl⟩
     case measure => simp [intOf]
    ·obtain rfl : k = 1 := by omega
     go_wp2
     go_ret
     exact ⟨rfl, rfl⟩
 ·have q1 : (x != 0) = true := by simp [c]
  go_enter Tryz.func106, Tryz.ntmps106
  go_wp2
  go_loopw [5, 8] (fun _ i wr => ∃ k : Nat, k ≤ 0 ∧ i = .int .i64 k ∧ wr = w) (fun _ i _ => 2 - (intOf i).toNat)
  case atStart => exact ⟨0, Nat.zero_le _, rfl, rfl⟩
  case round =>
   obtain ⟨k, hk, rfl, rfl⟩ := hrel
   obtain rfl : k = 0 := by omega
   go_wp2
   go_ret
   first | exact ⟨rfl, rfl⟩ | exact ⟨by rw [if_neg c]; rfl, rfl⟩
end Go.Proofs.YtngddecpfhlilaaGreat
namespace Go.Proofs.YtngddecpfhlilaaGreat
open Go.RowKit
def CmpG (w w' : World) : Prop := ∃ q os, w' = Sort.grow (w.drewN q) os
theorem CmpG.refl (w : World) : CmpG w w := ⟨0, #[], by simp [Sort.grow, World.drewN]⟩
theorem CmpG.drewN {w w' : World} (h : CmpG w w') (n : Nat) : CmpG w (w'.drewN n) := by
 obtain ⟨q, os, rfl⟩ := h
 exact ⟨q + n, os, by simp [Sort.grow, World.drewN, Nat.add_assoc]⟩
theorem CmpG.alloc {w w' : World} (h : CmpG w w') (o : Obj) : CmpG w (w'.alloc o) := by
 obtain ⟨q, os, rfl⟩ := h
 exact ⟨q, os ++ #[o], by rw [Sort.alloc_eq_grow, Sort.grow_grow]⟩
theorem CmpG.below {w w' : World} (h : CmpG w w') : Below w.heap.size w w' := by
 obtain ⟨q, os, rfl⟩ := h
 exact Lib.below_grow _ _ (Nat.le_refl _) _ _
def Cq (b : Nat) (p q : Pt) (W w : World) : Prop := w.cell? ⟨b, 0, none⟩ = some (.int .i64 p.X) ∧ w.cell? ⟨b, 1, none⟩ = some (.int .i64 p.Y) ∧ w.cell? ⟨b + 1, 0, none⟩ = some (.int .i64 q.X) ∧ w.cell? ⟨b + 1, 1, none⟩ = some (.int .i64 q.Y) ∧ b < w.heap.size ∧ b + 1 < w.heap.size ∧ Hid (CmpG W w)
theorem Cq.go {b : Nat} {p q : Pt} {W w w' : World} (h : Cq b p q W w) (hb : Below w.heap.size w w') (hc : CmpG W w') : Cq b p q W w' := by
 obtain ⟨x, y, u, v, l1, l2, _⟩ := h
 exact ⟨(hb.cell (p := ⟨b, 0, none⟩) l1).trans x, (hb.cell (p := ⟨b, 1, none⟩) l1).trans y, (hb.cell (p := ⟨b + 1, 0, none⟩) l2).trans u, (hb.cell (p := ⟨b + 1, 1, none⟩) l2).trans v, Nat.lt_of_lt_of_le l1 hb.size, Nat.lt_of_lt_of_le l2 hb.size, Lib.hid hc⟩
theorem Cq.drewN {b : Nat} {p q : Pt} {W w : World} (h : Cq b p q W w) (n : Nat) : Cq b p q W (w.drewN n) := h.go (below_drewN (Below.refl _ _) n) (h.2.2.2.2.2.2.out.drewN n)
theorem Cq.alloc {b : Nat} {p q : Pt} {W w : World} (h : Cq b p q W w) (o : Obj) : Cq b p q W (w.alloc o) := h.go ((Below.refl _ _).alloc (Nat.le_refl _) o) (h.2.2.2.2.2.2.out.alloc o)
theorem Cq.eq {b : Nat} {p q : Pt} {W w w' : World} (h : Cq b p q W w) (e : w' = w) : Cq b p q W w' := by subst e; exact h
def cmpP (p q : Pt) : Int := orI (Lib.compareInt p.X q.X) (Lib.compareInt p.Y q.Y)
end Go.Proofs.YtngddecpfhlilaaGreat
namespace Go.Proofs.YtngddecpfhlilaaGreat
open Go.RowKit
structure PIn (w : World) (A : Option Addr) (cap : Nat) (l : List Pt) : Prop where
 row : PRow w A l
 len : l.length ≤ 1099511627776
 room : l.length ≤ cap
 room2 : cap ≤ 9223372036854775807
theorem PIn.below {w w' : World} {A : Option Addr} {cap : Nat} {l : List Pt} (h : PIn w A cap l) (hb : Below w.heap.size w w') : PIn w' A cap l := ⟨h.row.below hb, h.len, h.room, h.room2⟩
def PLt (p q : Pt) : Prop := p.X < q.X ∨ p.X = q.X ∧ p.Y < q.Y
instance (p q : Pt) : Decidable (PLt p q) := by unfold PLt; infer_instance
theorem cmp_lt (p q : Pt) : cmpP p q < 0 ↔ PLt p q := by
 unfold cmpP orI Lib.compareInt PLt
 split <;> split <;> (try split) <;> (try split) <;> omega
theorem PLt.trans {p q r : Pt} (h : PLt p q) (k : PLt q r) : PLt p r := by unfold PLt at *; omega
def Mq (b o g : Nat) (p m : Pt) (W w : World) : Prop := w.cell? ⟨b, o, none⟩ = some (.int .i64 p.X) ∧ w.cell? ⟨b, o + 1, none⟩ = some (.int .i64 p.Y) ∧ w.cell? ⟨g, 0, none⟩ = some (.int .i64 m.X) ∧ w.cell? ⟨g, 1, none⟩ = some (.int .i64 m.Y) ∧ b < w.heap.size ∧ g < w.heap.size ∧ Hid (Below W.heap.size W w)
theorem Mq.go {b o g : Nat} {p m : Pt} {W w w' : World} (h : Mq b o g p m W w) (hb : Below w.heap.size w w') : Mq b o g p m W w' := by
 obtain ⟨x, y, u, v, l1, l2, h3⟩ := h
 exact ⟨(hb.cell (p := ⟨b, o, none⟩) l1).trans x, (hb.cell (p := ⟨b, o + 1, none⟩) l1).trans y, (hb.cell (p := ⟨g, 0, none⟩) l2).trans u, (hb.cell (p := ⟨g, 1, none⟩) l2).trans v, Nat.lt_of_lt_of_le l1 hb.size, Nat.lt_of_lt_of_le l2 hb.size, Lib.hid (h3.out.trans (hb.mono h3.out.size))⟩
theorem Mq.drewN {b o g : Nat} {p m : Pt} {W w : World} (h : Mq b o g p m W w) (n : Nat) : Mq b o g p m W (w.drewN n) := h.go (below_drewN (Below.refl _ _) n)
def PtAt (w : World) (b : Nat) (p : Pt) : Prop := w.heap[b]? = some (.cells #[.int .i64 p.X, .int .i64 p.Y] 146 (0, 0))
section
variable {w w' : World} {b : Nat} {r : Pt}
theorem PtAt.lt (h : PtAt w b r) : b < w.heap.size := (Array.getElem?_eq_some_iff.1 h).1
theorem PtAt.cell0 (h : PtAt w b r) : w.cell? ⟨b, 0, none⟩ = some (.int .i64 r.X) := by rw [Lib.cell_of_heap h]; rfl
theorem PtAt.cell1 (h : PtAt w b r) : w.cell? ⟨b, 1, none⟩ = some (.int .i64 r.Y) := by rw [Lib.cell_of_heap h]; rfl
theorem PtAt.below {B : Nat} (h : PtAt w b r) (hg : Below B w w') (hr : b < B) : PtAt w' b r := (hg.block b hr).trans h
theorem PtAt.new (w : World) (r : Pt) (k : Nat) (h : k = w.heap.size) : PtAt (w.alloc (.cells #[.int .i64 r.X, .int .i64 r.Y] 146)) k r := by subst h; exact heap_alloc_new w _
theorem PtAt.set {s : Pt} (h : PtAt w b r) {x y : Int} (h0 : x = s.X) (h1 : y = s.Y) : PtAt ((w.setCell ⟨b, 0, none⟩ (.int .i64 x)).setCell ⟨b, 1, none⟩ (.int .i64 y)) b s := by
 subst h0; subst h1
 unfold PtAt at h ⊢
 simp [World.setCell, Array.getElem?_modify, h]
theorem PtAt.far {c i : Nat} {v : Value} (h : PtAt w b r) (hc : b ≠ c) : PtAt (w.setCell ⟨c, i, none⟩ v) b r := by
 unfold PtAt at h ⊢
 simp [World.setCell, Array.getElem?_modify, h, hc.symm]
end
def zP : Pt := ⟨0, 0⟩
def Out4 (p q : Nat) (s : Pt) (w0 w : World) : Prop := PtAt w p zP ∧ PtAt w q s ∧ Below w0.heap.size w0 w ∧ w0.heap.size ≤ p ∧ p < q
theorem Out4.go {p q : Nat} {s : Pt} {w0 w w' : World} (h : Out4 p q s w0 w) (hb : Below w.heap.size w w') : Out4 p q s w0 w' :=
 ⟨h.1.below hb h.1.lt, h.2.1.below hb h.2.1.lt, h.2.2.1.trans (hb.mono h.2.2.1.size), h.2.2.2⟩
theorem Out4.set {p q : Nat} {r s : Pt} {w0 w : World} (h : Out4 p q r w0 w) {x y : Int} (h0 : x = s.X) (h1 : y = s.Y) :
  Out4 p q s w0 ((w.setCell ⟨q, 0, none⟩ (.int .i64 x)).setCell ⟨q, 1, none⟩ (.int .i64 y)) :=
 ⟨(h.1.far (by have := h.2.2.2; omega)).far (by have := h.2.2.2; omega), h.2.1.set h0 h1,
  have hp := h.2.2.2; (h.2.2.1.setCell (by simp; omega) _).setCell (by simp; omega) _, h.2.2.2⟩
structure MinAt (l : List Pt) (k : Nat) (a m : Pt) : Prop where
 eq : (∀ j (h : j < l.length), j < k → ¬ PLt l[j] a) → m = a
 lt : (∃ j, ∃ h : j < l.length, j < k ∧ PLt l[j] a) → PLt m a
theorem MinAt.step {l : List Pt} {k : Nat} {a m : Pt} (h : MinAt l k a m) (hk : k < l.length) : MinAt l (k + 1) a (if PLt l[k] m then l[k] else m) := by
 by_cases c0 : ∃ j, ∃ h : j < l.length, j < k ∧ PLt l[j] a
 ·have hm := h.lt c0
  obtain ⟨j, hj, hjk, hlt⟩ := c0
  refine ⟨fun hn => absurd hlt (hn j hj (by omega)), fun _ => ?_⟩
  split
  ·rename_i c; exact c.trans hm
  ·exact hm
 ·have hn : ∀ j (h : j < l.length), j < k → ¬ PLt l[j] a := fun j hj hjk hlt => c0 ⟨j, hj, hjk, hlt⟩
  have hm := h.eq hn
  subst hm
  refine ⟨fun h2 => if_neg (h2 k hk (by omega)), fun ⟨j, hj, hjk, hlt⟩ => ?_⟩
  by_cases e : j < k
  ·exact absurd hlt (hn j hj e)
  ·obtain rfl : j = k := by omega
   rw [if_pos hlt]; exact hlt
end Go.Proofs.YtngddecpfhlilaaGreat
