/-
  Sums over a beginning, kept by the lowest bits of the indexes (layer 13): plain mathematics. No program in this text.
  Solids in memory: a list of slabs that can be read, an own list of slabs, what a solid's functions give.
  Lots (layer 13): Join as a function, with its codes. No program in this text.
  Contracts of the program's layer 9, 1: isRange, continues, bases, area.
  Easements (layer 13): slabs and cubes. No program in this text.
-/
import Derived.Test.YtngddecpfhlilaaGreatC07
import Derived.Test.YtngddecpfhlilaaGreatC11
import Derived.Test.YtngddecpfhlilaaGreatC09
import Derived.IntWalk
set_option linter.unusedVariables false
set_option maxRecDepth 100000
namespace Go.Proofs.YtngddecpfhlilaaGreat
open Go
theorem odd_pow : ∀ n : Nat, 0 < n → ∃ e m, n = 2 ^ e * (2 * m + 1) := fun n => by
 induction n using Nat.strongRecOn with
 | _ n ih =>
  intro h
  rcases Nat.mod_two_eq_zero_or_one n with c | c
  ·obtain ⟨e, m, he⟩ := ih (n / 2) (by omega) (by omega)
   exact ⟨e + 1, m, by rw [Nat.pow_succ, Nat.mul_assoc, Nat.mul_comm 2, ← Nat.mul_assoc, ← he]; omega⟩
  ·exact ⟨0, n / 2, by simp; omega⟩
def lbN (n : Nat) : Nat := (bits .and .i64 (n : Int) (-(n : Int))).toNat
theorem and_neg {n e m : Nat} (hn : n = 2 ^ e * (2 * m + 1)) (h : n < 9223372036854775808) : n &&& (18446744073709551616 - n) = 2 ^ e := by
 have hp : 0 < 2 ^ e := Nat.pow_pos (by decide)
 have h1 : 18446744073709551616 - n = 2 ^ 64 - ((n - 1) + 1) := by
  have : 1 ≤ n := by rw [hn]; exact Nat.mul_pos hp (by omega)
  omega
 have h0 : 1 ≤ n := by rw [hn]; exact Nat.mul_pos hp (by omega)
 have h2 : n - 1 = 2 ^ e * (2 * m) + (2 ^ e - 1) := by
  have : n = 2 ^ e * (2 * m) + 2 ^ e := by rw [hn, Nat.mul_add, Nat.mul_one]
  omega
 have he : e < 64 := by
  rcases Nat.lt_or_ge e 64 with c | c
  ·exact c
  ·have : 2 ^ 64 ≤ 2 ^ e := Nat.pow_le_pow_right (by decide) c
   have : 2 ^ e ≤ n := by rw [hn]; exact Nat.le_mul_of_pos_right _ (by omega)
   omega
 apply Nat.eq_of_testBit_eq
 intro j
 rw [Nat.testBit_and, h1, Nat.testBit_two_pow_sub_succ (by omega), h2, Nat.testBit_two_pow_mul_add _ (by omega), Nat.testBit_two_pow_sub_one, hn]
 have h3 : (2 ^ e * (2 * m + 1)).testBit j = if j < e then false else (2 * m + 1).testBit (j - e) := by
  have := Nat.testBit_two_pow_mul_add (2 * m + 1) hp j
  rw [Nat.add_zero] at this
  rw [this]
  simp
 rw [h3, Nat.testBit_two_pow]
 rcases Nat.lt_trichotomy j e with c | c | c
 ·simp [c]; omega
 ·subst c
  simp [he]
 ·have c1 : ¬ j < e := by omega
  rw [if_neg c1, if_neg c1]
  obtain ⟨k, hk⟩ : ∃ k, j - e = k + 1 := ⟨j - e - 1, by omega⟩
  rw [hk, Nat.testBit_succ, Nat.testBit_succ, show (2 * m + 1) / 2 = m by omega, show 2 * m / 2 = m by omega]
  have : ¬ e = j := by omega
  simp [this]
  intro a _; exact a
theorem bits_neg {n e m : Nat} (hn : n = 2 ^ e * (2 * m + 1)) (h : n < 9223372036854775808) : bits .and .i64 (n : Int) (-(n : Int)) = ((2 ^ e : Nat) : Int) := by
 have hp : 0 < 2 ^ e := Nat.pow_pos (by decide)
 have h0 : 1 ≤ n := by rw [hn]; exact Nat.mul_pos hp (by omega)
 have h1 := and_neg hn h
 have hle : 2 ^ e ≤ n := by rw [hn]; exact Nat.le_mul_of_pos_right _ (by omega)
 show IntKind.i64.wrap ((BitVec.ofInt 64 (n : Int) &&& BitVec.ofInt 64 (-(n : Int))).toNat : Int) = _
 have h2 : (BitVec.ofInt 64 (-(n : Int))).toNat = 18446744073709551616 - n := by
  rw [BitVec.toNat_ofInt]
  have : (-(n : Int)) % ((2 ^ 64 : Nat) : Int) = ((18446744073709551616 - n : Nat) : Int) := by omega
  rw [this]; rfl
 rw [BitVec.toNat_and, ofInt_u64 n (by omega), h2, h1]
 exact IntWalk.i64_in _ (by omega)
theorem lbN_is {n e m : Nat} (hn : n = 2 ^ e * (2 * m + 1)) (h : n < 9223372036854775808) : lbN n = 2 ^ e := by
 unfold lbN
 rw [bits_neg hn h]; rfl
theorem lbN_bits {n : Nat} (h0 : 0 < n) (h : n < 9223372036854775808) : bits .and .i64 (n : Int) (-(n : Int)) = (lbN n : Int) := by
 obtain ⟨e, m, hn⟩ := odd_pow n h0
 rw [bits_neg hn h, lbN_is hn h]
theorem lbN_le {n : Nat} (h0 : 0 < n) (h : n < 9223372036854775808) : 1 ≤ lbN n ∧ lbN n ≤ n := by
 obtain ⟨e, m, hn⟩ := odd_pow n h0
 rw [lbN_is hn h]
 refine ⟨Nat.pow_pos (by decide), ?_⟩
 rw [hn]; exact Nat.le_mul_of_pos_right _ (by omega)
theorem lb_between {p q : Nat} (h0 : 0 < p) (hpq : p < q) (hq : q < p + lbN p) (h : q < 9223372036854775808) : p ≤ q - lbN q := by
 obtain ⟨e, m, hp⟩ := odd_pow p h0
 rw [lbN_is hp (by omega)] at hq
 obtain ⟨f, k, hd⟩ := odd_pow (q - p) (by omega)
 have hf : f < e := by
  rcases Nat.lt_or_ge f e with c | c
  ·exact c
  ·have : 2 ^ e ≤ 2 ^ f := Nat.pow_le_pow_right (by decide) c
   have : 2 ^ f ≤ q - p := by rw [hd]; exact Nat.le_mul_of_pos_right _ (by omega)
   omega
 have hle : 2 ^ f ≤ q - p := by rw [hd]; exact Nat.le_mul_of_pos_right _ (by omega)
 have hq2 : q = 2 ^ f * (2 * (2 ^ (e - f - 1) * (2 * m + 1) + k) + 1) := by
  have e1 : 2 ^ e = 2 ^ f * (2 * 2 ^ (e - f - 1)) := by
   rw [← Nat.pow_succ', ← Nat.pow_add]; congr 1; omega
  have : q = p + (q - p) := by omega
  rw [this, hd, hp, e1]
  simp only [Nat.mul_add, Nat.mul_assoc, Nat.mul_one]
  omega
 rw [lbN_is hq2 h]
 omega
theorem lb_next {p : Nat} (h0 : 0 < p) (h : p + lbN p < 9223372036854775808) : p + lbN p - lbN (p + lbN p) ≤ p - lbN p := by
 have hlt : p < 9223372036854775808 := by omega
 obtain ⟨e, m, hp⟩ := odd_pow p h0
 rw [lbN_is hp hlt] at h ⊢
 obtain ⟨g, k, hm⟩ := odd_pow (m + 1) (by omega)
 have h1 : p + 2 ^ e = 2 ^ (e + 1 + g) * (2 * k + 1) := by
  rw [Nat.pow_add, Nat.mul_assoc, ← hm, hp, Nat.pow_succ]
  simp only [Nat.mul_add, Nat.mul_assoc, Nat.mul_one]
  omega
 rw [lbN_is h1 h]
 have h2 : 2 ^ (e + 1) ≤ 2 ^ (e + 1 + g) := Nat.pow_le_pow_right (by decide) (by omega)
 rw [Nat.pow_succ] at h2
 omega
def dif (pre : Nat → Int) (q : Nat) : Int := pre q - pre (q - lbN q)
def upP (pre : Nat → Int) (i : Nat) (step : Int) (j : Nat) : Int := pre j + (if i < j then step else 0)
theorem dif_same {pre : Nat → Int} {i : Nat} {step : Int} {q : Nat} (h : q ≤ i ∨ i < q - lbN q) : dif (upP pre i step) q = dif pre q := by
 unfold dif upP
 rcases h with h | h
 ·rw [if_neg (by omega), if_neg (by omega)]; omega
 ·rw [if_pos (by omega), if_pos (by omega)]; omega
theorem dif_up {pre : Nat → Int} {i : Nat} {step : Int} {q : Nat} (h1 : i < q) (h2 : q - lbN q ≤ i) : dif (upP pre i step) q = dif pre q + step := by
 unfold dif upP
 rw [if_pos (by omega), if_neg (by omega)]; omega
def CntOk (c : List Int) (pre : Nat → Int) : Prop := pre 0 = 0 ∧ ∀ q, 1 ≤ q → ∀ h : q < c.length, c[q] = dif pre q
structure CntMid (c : List Int) (pre : Nat → Int) (i : Nat) (step : Int) (p : Nat) : Prop where
 z : pre 0 = 0
 at1 : ∀ q, 1 ≤ q → ∀ h : q < c.length, c[q] = if q < p then dif (upP pre i step) q else dif pre q
 lo : p - lbN p ≤ i
 hi : i < p
theorem CntOk.mid {c : List Int} {pre : Nat → Int} (h : CntOk c pre) (i : Nat) (step : Int) (hi : i + 1 < 9223372036854775808) : CntMid c pre i step (i + 1) := by
 have := lbN_le (n := i + 1) (by omega) hi
 refine ⟨h.1, fun q h1 h2 => ?_, by omega, by omega⟩
 rw [h.2 q h1 h2]
 split
 ·rw [dif_same (.inl (by omega))]
 ·rfl
theorem CntMid.step {c : List Int} {pre : Nat → Int} {i : Nat} {step : Int} {p : Nat} (h : CntMid c pre i step p) (hp : p < c.length) (hc : c.length ≤ 4611686018427387904) : CntMid (c.set p (c[p] + step)) pre i step (p + lbN p) := by
 have hp0 : 0 < p := by have := h.hi; omega
 have hl := lbN_le hp0 (by omega)
 have hn := lb_next hp0 (by omega)
 refine ⟨h.z, fun q h1 h2 => ?_, by have := h.lo; omega, by have := h.hi; omega⟩
 rw [List.length_set] at h2
 rw [List.getElem_set]
 by_cases e : p = q
 ·subst e
  rw [if_pos rfl, if_pos (by omega), h.at1 p h1 h2, if_neg (by omega), dif_up h.hi h.lo]
 ·rw [if_neg e, h.at1 q h1 h2]
  by_cases c1 : q < p
  ·rw [if_pos c1, if_pos (by omega)]
  ·rw [if_neg c1]
   split
   ·have := lb_between hp0 (by omega) (by omega) (by omega : q < 9223372036854775808)
    rw [dif_same (.inr (by have := h.hi; omega))]
   ·rfl
theorem CntMid.done {c : List Int} {pre : Nat → Int} {i : Nat} {step : Int} {p : Nat} (h : CntMid c pre i step p) (hp : c.length ≤ p) : CntOk c (upP pre i step) :=
 ⟨by unfold upP; rw [if_neg (by omega), h.z]; rfl, fun q h1 h2 => by rw [h.at1 q h1 h2, if_pos (by omega)]⟩
theorem CntOk.zero (n : Nat) : CntOk (List.replicate n 0) (fun _ => 0) := ⟨rfl, fun q h1 h2 => by simp [dif]⟩
theorem CntOk.sum {c : List Int} {pre : Nat → Int} (h : CntOk c pre) {q : Nat} (h1 : 1 ≤ q) (h2 : q < c.length) : c[q] + pre (q - lbN q) = pre q := by
 rw [h.2 q h1 h2]; unfold dif; omega
end Go.Proofs.YtngddecpfhlilaaGreat
namespace Go.Proofs.YtngddecpfhlilaaGreat
open Go.RowKit
def SlRow (w : World) (A : Option Addr) (S : List Sl) : Prop := 0 < S.length → ∃ b off, A = some ⟨b, off, none⟩ ∧ b < w.heap.size ∧ ∀ j (h : j < S.length), w.cell? ⟨b, off + j * 3, none⟩ = some (.int .i64 S[j].z0) ∧ w.cell? ⟨b, off + j * 3 + 1, none⟩ = some (.int .i64 S[j].z1) ∧ ∃ Aj cj, w.cell? ⟨b, off + j * 3 + 2, none⟩ = some (.slice Aj S[j].ar.length cj) ∧ RIn w Aj cj S[j].ar
theorem SlRow.below {w w' : World} {A : Option Addr} {S : List Sl} (h : SlRow w A S) (hb : Below w.heap.size w w') : SlRow w' A S := fun h0 => by
 obtain ⟨b, off, e, hl, hc⟩ := h h0
 refine ⟨b, off, e, Nat.lt_of_lt_of_le hl hb.size, fun j hj => ?_⟩
 obtain ⟨c0, c1, Aj, cj, c2, hr⟩ := hc j hj
 have wc := fun o => hb.cell (p := ⟨b, o, none⟩) hl
 exact ⟨(wc _).trans c0, (wc _).trans c1, Aj, cj, (wc _).trans c2, hr.below hb⟩
theorem SlRow.nil (w : World) (A : Option Addr) : SlRow w A [] := fun h => absurd h (by simp)
structure SIn (w : World) (A : Option Addr) (cap : Nat) (S : List Sl) : Prop where
 row : SlRow w A S
 len : S.length ≤ 1099511627776
 room : S.length ≤ cap
 room2 : cap ≤ 9223372036854775807
theorem SIn.below {w w' : World} {A : Option Addr} {cap : Nat} {S : List Sl} (h : SIn w A cap S) (hb : Below w.heap.size w w') : SIn w' A cap S := ⟨h.row.below hb, h.len, h.room, h.room2⟩
theorem SIn.nil (w : World) : SIn w none 0 [] := ⟨SlRow.nil _ _, by simp, by simp, by omega⟩
def SolRes (x : List Sl × Int) (w : World) (e : Ending) (w' : World) : Prop := ∃ A c, e = .returned (.tuple #[.slice A x.1.length c, .int .i64 x.2]) ∧ SIn w' A c x.1 ∧ Below w.heap.size w w'
theorem infoSlab : (Tryz.prog.info? 153).map (fun i => (i.zero, i.size, i.bytes)) = some (some (.agg #[.int .i64 0, .int .i64 0, .slice none 0 0]), 3, 40) := by kernel_rfl
structure SlV where
 s : Sl
 A : Option Addr
 c : Nat
def svc (t : SlV) : List Value := [.int .i64 t.s.z0, .int .i64 t.s.z1, .slice t.A t.s.ar.length t.c]
def svcells (L : List SlV) : List Value := L.flatMap svc
def svS (L : List SlV) : List Sl := L.map (·.s)
theorem svS_len (L : List SlV) : (svS L).length = L.length := by simp [svS]
theorem svS_append (L M : List SlV) : svS (L ++ M) = svS L ++ svS M := by simp [svS]
theorem svcells_append (L M : List SlV) : svcells (L ++ M) = svcells L ++ svcells M := by simp [svcells]
theorem svcells_len (L : List SlV) : (svcells L).length = L.length * 3 := by
 induction L with
 | nil => rfl
 | cons t L ih => rw [show svcells (t :: L) = svc t ++ svcells L from rfl, List.length_append, ih]; simp [svc]; omega
theorem svcells_at : ∀ (L : List SlV) (j : Nat) (h : j < L.length), (svcells L)[j * 3]? = some (.int .i64 L[j].s.z0) ∧ (svcells L)[j * 3 + 1]? = some (.int .i64 L[j].s.z1) ∧ (svcells L)[j * 3 + 2]? = some (.slice L[j].A L[j].s.ar.length L[j].c) := by
 intro L
 induction L with
 | nil => intro j h; exact absurd h (by simp)
 | cons t L ih =>
  intro j h
  have e : svcells (t :: L) = .int .i64 t.s.z0 :: .int .i64 t.s.z1 :: .slice t.A t.s.ar.length t.c :: svcells L := rfl
  rw [e]
  cases j with
  | zero => exact ⟨rfl, rfl, rfl⟩
  | succ j =>
   obtain ⟨h0, h1, h2⟩ := ih j (by simp at h; omega)
   rw [show (j + 1) * 3 = j * 3 + 1 + 1 + 1 by omega]
   simp only [List.getElem?_cons_succ, List.getElem_cons_succ]
   exact ⟨h0, h1, h2⟩
structure SW (v : Value) (L : List SlV) (w wr : World) : Prop where
 own : wr.ownsRow w.heap.size 153 3 v L.length (svcells L)
 ar : ∀ t ∈ L, wr.ownsRow w.heap.size 68 4 (.slice t.A t.s.ar.length t.c) t.s.ar.length (rcells t.s.ar)
 bel : Below w.heap.size w wr
theorem SW.go {v : Value} {L : List SlV} {w wr w' : World} (h : SW v L w wr) (hb : Below wr.heap.size wr w') : SW v L w w' := ⟨own_go h.own hb, fun t ht => own_go (h.ar t ht) hb, h.bel.trans (hb.mono h.bel.size)⟩
theorem SW.nil (w : World) : SW (.slice none 0 0) [] w w := ⟨World.ownsRow_nil _ _ _ _, fun t ht => (by cases ht), Below.refl _ _⟩
theorem SW.start {w wr : World} (h : Below w.heap.size w wr) : SW (.slice none 0 0) [] w wr := ⟨World.ownsRow_nil _ _ _ _, fun t ht => (by cases ht), h⟩
theorem SW.app {v v' : Value} {L : List SlV} {t : SlV} {w wr w' : World} (h : SW v L w wr) (ht : wr.ownsRow w.heap.size 68 4 (.slice t.A t.s.ar.length t.c) t.s.ar.length (rcells t.s.ar))
  (ho : w'.ownsRow w.heap.size 153 3 v' (L.length + 1) (svcells L ++ svc t)) (hg : wr.grownBy w' v.ownBlock) : SW v' (L ++ [t]) w w' := by
 refine ⟨?_, fun u hu => ?_, h.bel.grown hg h.bel.size (fun k hk => (h.own.lt k hk).1)⟩
 ·rw [List.length_append, svcells_append]
  rw [show svcells [t] = svc t by simp [svcells]]
  exact ho
 ·rcases List.mem_append.1 hu with hu | hu
  ·exact own_kept h.own (h.ar u hu) (by decide) hg
  ·rw [List.mem_singleton] at hu; subst hu; exact own_kept h.own ht (by decide) hg
theorem svcells_last (L : List SlV) (p : SlV) (x : Int) : (svcells (L ++ [p])).set (L.length * 3 + 1) (.int .i64 x) = svcells (L ++ [⟨⟨p.s.z0, x, p.s.ar⟩, p.A, p.c⟩]) := by
 rw [svcells_append, svcells_append, List.set_append_right _ _ (by rw [svcells_len]; omega), svcells_len]
 rw [show L.length * 3 + 1 - L.length * 3 = 1 by omega]
 simp [svcells, svc]
theorem SW.setz {v : Value} {L : List SlV} {p : SlV} {w wr : World} (h : SW v (L ++ [p]) w wr) {g cap : Nat} (hv : v = .slice (some ⟨g, 0, none⟩) (L.length + 1) cap) (x : Int) : SW v (L ++ [⟨⟨p.s.z0, x, p.s.ar⟩, p.A, p.c⟩]) w (wr.setCell ⟨g, L.length * 3 + 1, none⟩ (.int .i64 x)) := by
 subst hv
 have hg := (h.own.lt g rfl).1
 have ho := h.own
 rw [show (L ++ [p]).length = L.length + 1 by simp] at ho
 obtain ⟨h1, h2⟩ := ho.stored (L.length * 3 + 1) (.int .i64 x)
 have ha : ∀ u ∈ L ++ [p], (wr.setCell ⟨g, L.length * 3 + 1, none⟩ (.int .i64 x)).ownsRow w.heap.size 68 4 (.slice u.A u.s.ar.length u.c) u.s.ar.length (rcells u.s.ar) := fun u hu => own_stays (h.ar u hu) (fun k hk => set_other _ _ _ _ (fun e => by
  simp only at e
  subst e
  exact own_apart (h.ar u hu) ho (by decide) _ hk rfl))
 refine ⟨?_, fun u hu => ?_, h.bel.setCell hg _⟩
 ·rw [svcells_last] at h1
  rw [show (L ++ [(⟨⟨p.s.z0, x, p.s.ar⟩, p.A, p.c⟩ : SlV)]).length = L.length + 1 by simp]
  exact h1
 ·rcases List.mem_append.1 hu with hu | hu
  ·exact ha u (List.mem_append_left _ hu)
  ·rw [List.mem_singleton] at hu; subst hu; exact ha p (by simp)
theorem SW.cells {v : Value} {L : List SlV} {w wr : World} (h : SW v L w wr) : ∃ A cap, v = .slice A L.length cap ∧ L.length ≤ cap ∧ cap ≤ 9223372036854775807 ∧ (0 < L.length → ∃ g, A = some ⟨g, 0, none⟩ ∧ w.heap.size ≤ g ∧ g < wr.heap.size ∧ ∀ j (hj : j < L.length), wr.cell? ⟨g, j * 3, none⟩ = some (.int .i64 L[j].s.z0) ∧ wr.cell? ⟨g, j * 3 + 1, none⟩ = some (.int .i64 L[j].s.z1) ∧ wr.cell? ⟨g, j * 3 + 2, none⟩ = some (.slice L[j].A L[j].s.ar.length L[j].c)) := by
 have hh := h.own
 have hlt := hh.lt
 obtain ⟨h1, h2⟩ := h.own
 rcases h2 with ⟨rfl, h3⟩ | ⟨g, cap, cur, rfl, hB, hg, h4⟩
 ·exact ⟨none, 0, by rw [h3], by omega, by omega, fun h => by omega⟩
 ·refine ⟨_, cap, rfl, h4.1, ?_, fun _ => ⟨g, rfl, hB, (hlt g rfl).2, fun j hj => ?_⟩⟩
  ·have := h4.2.1; unfold maxLen at this; omega
  ·have c := fun i (hi : i < L.length * 3) => World.ownsRow.cellAt hh i hi
   obtain ⟨e0, e1, e2⟩ := svcells_at L j hj
   exact ⟨(c _ (by omega)).trans e0, (c _ (by omega)).trans e1, (c _ (by omega)).trans e2⟩
theorem own_rin {w : World} {B : Nat} {A : Option Addr} {c : Nat} {l : List Rc} (h : w.ownsRow B 68 4 (.slice A l.length c) l.length (rcells l)) (hl : l.length ≤ 1099511627776) : RIn w A c l := by
 obtain ⟨A', c', e, h1, h2, h3, _⟩ := own_rects h
 injection e with e1 _ e2
 subst e1; subst e2
 exact ⟨h1, hl, h2, h3⟩
theorem SW.sin {v : Value} {L : List SlV} {w wr : World} (h : SW v L w wr) (hl : L.length ≤ 1099511627776) (ha : ∀ t ∈ L, t.s.ar.length ≤ 1099511627776) : ∃ A cap, v = .slice A (svS L).length cap ∧ SIn wr A cap (svS L) := by
 obtain ⟨A, cap, rfl, h1, h2, h3⟩ := h.cells
 refine ⟨A, cap, by rw [svS_len], fun h0 => ?_, by rw [svS_len]; exact hl, by rw [svS_len]; exact h1, h2⟩
 rw [svS_len] at h0
 obtain ⟨g, rfl, _, hg, hc⟩ := h3 h0
 refine ⟨g, 0, rfl, hg, fun j hj => ?_⟩
 rw [svS_len] at hj
 obtain ⟨c0, c1, c2⟩ := hc j hj
 have e : (svS L)[j]'(by rw [svS_len]; exact hj) = L[j].s := by simp [svS]
 rw [Nat.zero_add, e]
 exact ⟨c0, c1, _, _, c2, own_rin (h.ar _ (List.getElem_mem hj)) (ha _ (List.getElem_mem hj))⟩
end Go.Proofs.YtngddecpfhlilaaGreat
namespace Go.Proofs.YtngddecpfhlilaaGreat
def findAll (l : List Lt) : List Int → Option (List Lt)
 | [] => some []
 | k :: o => match findL l k with
  | none => none
  | some t => match findAll l o with
   | none => none
   | some ts => some (t :: ts)
theorem findAll_ok {l : List Lt} (h : AscL l) : ∀ {o : List Int} {ts : List Lt}, findAll l o = some ts → (∀ t, t ∈ ts ↔ t ∈ l ∧ t.id ∈ o) ∧ (∀ k ∈ o, ∃ u ∈ l, u.id = k) ∧ ts.length = o.length
 | [], ts, e => by
  have e' : some ([] : List Lt) = some ts := e
  injection e' with e'
  subst e'
  exact ⟨fun t => by simp, (fun k hk => nomatch hk), rfl⟩
 | k :: o, ts, e => by
  unfold findAll at e
  cases hf : findL l k with
  | none => rw [hf] at e; cases e
  | some t =>
   rw [hf] at e
   simp only at e
   cases hg : findAll l o with
   | none => rw [hg] at e; cases e
   | some ts' =>
    rw [hg] at e
    injection e with e
    subst e
    obtain ⟨i1, i2, i3⟩ := findAll_ok h hg
    obtain ⟨m1, m2⟩ := find_mem hf
    refine ⟨fun u => ?_, fun q hq => ?_, by simp [i3]⟩
    ·rw [List.mem_cons, i1 u]
     constructor
     ·rintro (c | ⟨c1, c2⟩)
      ·rw [c]; exact ⟨m1, by rw [m2]; simp⟩
      ·exact ⟨c1, by simp [c2]⟩
     ·rintro ⟨c1, c2⟩
      rcases List.mem_cons.1 c2 with c | c
      ·exact .inl (h.one c1 m1 (by rw [c, m2]))
      ·exact .inr ⟨c1, c⟩
    ·rcases List.mem_cons.1 hq with c | c
     ·exact ⟨t, m1, by rw [c, m2]⟩
     ·exact i2 q c
def insA (n f : List Int) : List Int := n.foldl (fun f k => insS k f) f
theorem mem_insA (x : Int) : ∀ (n f : List Int), x ∈ insA n f ↔ x ∈ n ∨ x ∈ f
 | [], f => by simp [insA]
 | k :: n, f => by
  have ih := mem_insA x n (insS k f)
  unfold insA at ih ⊢
  rw [List.foldl_cons, ih, insS_mem, List.mem_cons]
  constructor
  ·rintro (c | c | c)
   ·exact .inl (.inr c)
   ·exact .inl (.inl c)
   ·exact .inr c
  ·rintro ((c | c) | c)
   ·exact .inr (.inl c)
   ·exact .inl c
   ·exact .inr (.inr c)
theorem insA_asc : ∀ (n : List Int) {f : List Int}, Asc f → Asc (insA n f)
 | [], f, h => h
 | k :: n, f, h => insA_asc n (insS_asc h)
def linL (f : List Int) : List Lt → List Int
 | [] => f
 | t :: ts => linL (insA t.fr (insS t.id f)) ts
theorem mem_linL (x : Int) : ∀ (ts : List Lt) (f : List Int), x ∈ linL f ts ↔ x ∈ f ∨ ∃ t ∈ ts, From t x
 | [], f => by simp [linL]
 | t :: ts, f => by
  unfold linL
  rw [mem_linL x ts, mem_insA, insS_mem]
  constructor
  ·rintro ((c | c | c) | ⟨u, hu, c⟩)
   ·exact .inr ⟨t, by simp, .inr c⟩
   ·exact .inr ⟨t, by simp, .inl c.symm⟩
   ·exact .inl c
   ·exact .inr ⟨u, by simp [hu], c⟩
  ·rintro (c | ⟨u, hu, c⟩)
   ·exact .inl (.inr (.inr c))
   ·rcases List.mem_cons.1 hu with e | hu
    ·rw [e] at c
     rcases c with c | c
     ·exact .inl (.inr (.inl c.symm))
     ·exact .inl (.inl c)
    ·exact .inr ⟨u, hu, c⟩
theorem linL_asc : ∀ (ts : List Lt) {f : List Int}, Asc f → Asc (linL f ts)
 | [], f, h => h
 | t :: ts, f, h => linL_asc ts (insA_asc _ (insS_asc h))
section
variable (land : List Lt → Bool) (lot : Lt → Bool) (rgt one : List Rc → Bool)
def difB : List Int → Bool
 | [] => true
 | k :: o => !decide (k ∈ o) && difB o
def joinM (l : List Lt) (o : List Int) (k : Int) : List Lt × Int :=
 if (land l && decide (2 ≤ o.length) && nB k && difB o) = false then ([], 1)
 else match findAll l o with
  | none => ([], 4)
  | some [] => ([], 4)
  | some (t :: ts) =>
   if takB l k = true then ([], 5)
   else if (ts.any fun u => decide (u.ow ≠ t.ow)) = true then ([], 24)
   else if 200 < (formL ((t :: ts).flatMap fun u => u.ar)).length then ([], 6)
   else if one (formL ((t :: ts).flatMap fun u => u.ar)) = false then ([], 12)
   else (chL o [⟨k, t.ow, formL ((t :: ts).flatMap fun u => u.ar), linL [] (t :: ts)⟩] l, 0)
variable {land lot rgt one}
theorem joinM_ok (p : Par13 land lot rgt one) {l : List Lt} {o : List Int} {k : Int} (h : (joinM land one l o k).2 = 0) :
  Land one l ∧ ∃ t, t.id = k ∧ JoinOk one o t l ∧ IsForm t.ar ∧ (∀ u ∈ l, u.id ∈ o → u.ow = t.ow) ∧ (joinM land one l o k).1 = chL o [t] l := by
 unfold joinM at h ⊢
 by_cases c1 : (land l && decide (2 ≤ o.length) && nB k && difB o) = false
 ·rw [if_pos c1] at h; simp at h
 rw [if_neg c1] at h ⊢
 cases hf : findAll l o with
 | none => rw [hf] at h; simp at h
 | some T =>
  cases T with
  | nil => rw [hf] at h; simp at h
  | cons t ts =>
   rw [hf] at h
   simp only at h ⊢
   by_cases c2 : takB l k = true
   ·rw [if_pos c2] at h; simp at h
   rw [if_neg c2] at h ⊢
   by_cases c3 : (ts.any fun u => decide (u.ow ≠ t.ow)) = true
   ·rw [if_pos c3] at h; simp at h
   rw [if_neg c3] at h ⊢
   by_cases c4 : 200 < (formL ((t :: ts).flatMap fun u => u.ar)).length
   ·rw [if_pos c4] at h; simp at h
   rw [if_neg c4] at h ⊢
   by_cases c5 : one (formL ((t :: ts).flatMap fun u => u.ar)) = false
   ·rw [if_pos c5] at h; simp at h
   rw [if_neg c5]
   simp only [Bool.not_eq_false, Bool.and_eq_true, decide_eq_true_eq] at c1 c5
   obtain ⟨⟨⟨d1, d2⟩, d3⟩, d4⟩ := c1
   have hl := (p.land l).1 d1
   obtain ⟨i1, i2, i3⟩ := findAll_ok hl.asc hf
   have ht := (i1 t).1 (by simp)
   have hr : ∀ r ∈ (t :: ts).flatMap (fun u => u.ar), ROk r := fun r hr => by
    obtain ⟨u, hu, h2⟩ := List.mem_flatMap.1 hr
    exact (p.one _ (hl.ok u ((i1 u).1 hu).1).one).2 r h2
   obtain ⟨g1, g2⟩ := formL_is hr
   have how : ∀ u ∈ l, u.id ∈ o → u.ow = t.ow := fun u hu hi => by
    rcases List.mem_cons.1 ((i1 u).2 ⟨hu, hi⟩) with e | hu2
    ·rw [e]
    ·have := c3
     simp only [List.any_eq_true, not_exists, not_and, decide_eq_true_eq, Classical.not_not] at this
     exact this u hu2
   refine ⟨hl, ⟨k, t.ow, formL ((t :: ts).flatMap fun u => u.ar), linL [] (t :: ts)⟩, rfl, ⟨by omega, i2, fun n => ?_, fun x y => ?_, ⟨⟨linL_asc _ (show Asc [] from trivial), fun n hn => ?_⟩, (nB_iff _).1 d3, (hl.ok t ht.1).ow, c5⟩, fun c => c2 ((takB_iff _ _).2 c)⟩, g1, how, rfl⟩
   ·rw [mem_linL]
    constructor
    ·rintro (c | ⟨u, hu, c⟩)
     ·exact nomatch c
     ·exact ⟨u, ((i1 u).1 hu).1, ((i1 u).1 hu).2, c⟩
    ·rintro ⟨u, hu, hi, c⟩
     exact .inr ⟨u, (i1 u).2 ⟨hu, hi⟩, c⟩
   ·rw [g2 x y, has_flat]
    constructor
    ·rintro ⟨u, hu, c⟩
     exact ⟨u, ((i1 u).1 hu).1, ((i1 u).1 hu).2, c⟩
    ·rintro ⟨u, hu, hi, c⟩
     exact ⟨u, (i1 u).2 ⟨hu, hi⟩, c⟩
   ·rcases (mem_linL n _ _).1 hn with c | ⟨u, hu, c | c⟩
    ·exact nomatch c
    ·rw [← c]; exact (hl.ok u ((i1 u).1 hu).1).id
    ·exact (hl.ok u ((i1 u).1 hu).1).fr.2 n c
end
end Go.Proofs.YtngddecpfhlilaaGreat
namespace Go.Proofs.YtngddecpfhlilaaGreat
open Go.RowKit
theorem bisr_any (a b : Int) (w : World) : Calls Tryz.prog 86 #[.int .i64 a, .int .i64 b] w (BlIs (decide (HOk a b)) w) := by
 by_cases c0 : 0 ≤ a
 ·by_cases c1 : a < b
  ·by_cases c2 : b ≤ 4096
   ·rw [show decide (HOk a b) = true from decide_eq_true ⟨c0, c1, c2⟩]
    go_enter Tryz.func86, Tryz.ntmps86
    go_wp2
    go_ret
    exact ⟨rfl, by (repeat' first | exact Below.refl _ _ | assumption | (apply below_drewN) | (refine Below.setCell ?_ (by (try simp); (try omega)) _) | (refine Below.alloc ?_ (by (try simp); (try omega)) _) | (refine Below.trans ?_ (Below.mono (Hid.out (by assumption)) (by (try simp); (try omega)))))⟩
   ·rw [show decide (HOk a b) = false from decide_eq_false (fun h => c2 h.2.2)]
    go_enter Tryz.func86, Tryz.ntmps86
    go_wp2
    go_ret
    exact ⟨by first | rfl | (apply ret_bl; rw [decide_eq_false_iff_not]; omega), by (repeat' first | exact Below.refl _ _ | assumption | (apply below_drewN) | (refine Below.setCell ?_ (by (try simp); (try omega)) _) | (refine Below.alloc ?_ (by (try simp); (try omega)) _) | (refine Below.trans ?_ (Below.mono (Hid.out (by assumption)) (by (try simp); (try omega)))))⟩
  ·rw [show decide (HOk a b) = false from decide_eq_false (fun h => c1 h.2.1)]
   go_enter Tryz.func86, Tryz.ntmps86
   go_wp2
   go_ret
   exact ⟨by first | rfl | (apply ret_bl; rw [decide_eq_false_iff_not]; omega), by (repeat' first | exact Below.refl _ _ | assumption | (apply below_drewN) | (refine Below.setCell ?_ (by (try simp); (try omega)) _) | (refine Below.alloc ?_ (by (try simp); (try omega)) _) | (refine Below.trans ?_ (Below.mono (Hid.out (by assumption)) (by (try simp); (try omega)))))⟩
 ·rw [show decide (HOk a b) = false from decide_eq_false (fun h => c0 h.1)]
  go_enter Tryz.func86, Tryz.ntmps86
  go_wp2
  go_ret
  exact ⟨by first | rfl | (apply ret_bl; rw [decide_eq_false_iff_not]; omega), by (repeat' first | exact Below.refl _ _ | assumption | (apply below_drewN) | (refine Below.setCell ?_ (by (try simp); (try omega)) _) | (refine Below.alloc ?_ (by (try simp); (try omega)) _) | (refine Below.trans ?_ (Below.mono (Hid.out (by assumption)) (by (try simp); (try omega)))))⟩
set_option maxHeartbeats 4000000 in
theorem bcont_any (a0 a1 b0 b1 : Int) (A1 : Option Addr) (c1 : Nat) (A2 : Option Addr) (c2 : Nat) (l m : List Rc) (w : World) (h1 : RRow w A1 l) (h2 : RRow w A2 m) (hl : l.length ≤ 1099511627776) (hm : m.length ≤ 1099511627776) :
  Calls Tryz.prog 144 #[.agg #[.int .i64 a0, .int .i64 a1, .slice A1 l.length c1], .agg #[.int .i64 b0, .int .i64 b1, .slice A2 m.length c2]] w (BlIs (decide (a1 = b0 ∧ l = m)) w) := by
 by_cases e : a1 = b0
 ·have HS := Lib.hid (fun w' (hb : Below w.heap.size w w') => gsame_any A1 c1 A2 c2 l m w' (h1.below hb) (h2.below hb) hl hm)
  have E : Hid (decide (a1 = b0 ∧ l = m) = decide (l = m)) := Lib.hid (by simp [e])
  have d : (a1 == b0) = true := by simp [e]
  clear h1 h2 e
  rw [E.out]
  generalize decide (l = m) = r at *
  go_enter Tryz.func144, Tryz.ntmps144
  go_wp2_with fail
  refine (HS.out _ (by (repeat' first | exact Below.refl _ _ | assumption | (apply below_drewN) | (refine Below.setCell ?_ (by (try simp); (try omega)) _) | (refine Below.alloc ?_ (by (try simp); (try omega)) _) | (refine Below.trans ?_ (Below.mono (Hid.out (by assumption)) (by (try simp); (try omega))))))).mono ?_
  rintro e1 w1 ⟨rfl, hb1⟩
  have HB : Hid (Below w.heap.size w w1) := Lib.hid ((show Below w.heap.size w _ from by (repeat' first | exact Below.refl _ _ | assumption | (apply below_drewN) | (refine Below.setCell ?_ (by (try simp); (try omega)) _) | (refine Below.alloc ?_ (by (try simp); (try omega)) _) | (refine Below.trans ?_ (Below.mono (Hid.out (by assumption)) (by (try simp); (try omega)))))).trans (hb1.mono (by simp; try omega)))
  clear hb1 HS
  go_wp2_with fail
  go_ret
  exact ⟨rfl, HB.out⟩
 ·have d : (a1 == b0) = false := by simp [e]
  rw [show decide (a1 = b0 ∧ l = m) = false from decide_eq_false (fun h => e h.1)]
  clear h1 h2 e
  go_enter Tryz.func144, Tryz.ntmps144
  go_wp2_with fail
  go_ret
  exact ⟨rfl, by (repeat' first | exact Below.refl _ _ | assumption | (apply below_drewN) | (refine Below.setCell ?_ (by (try simp); (try omega)) _) | (refine Below.alloc ?_ (by (try simp); (try omega)) _) | (refine Below.trans ?_ (Below.mono (Hid.out (by assumption)) (by (try simp); (try omega)))))⟩
def BxRow (w : World) (A : Option Addr) (l : List Bx) : Prop := 0 < l.length → ∃ b off, A = some ⟨b, off, none⟩ ∧ b < w.heap.size ∧ ∀ j (h : j < l.length), w.cell? ⟨b, off + j * 6, none⟩ = some (.int .i64 l[j].r.X0) ∧ w.cell? ⟨b, off + j * 6 + 1, none⟩ = some (.int .i64 l[j].r.Y0) ∧ w.cell? ⟨b, off + j * 6 + 2, none⟩ = some (.int .i64 l[j].r.X1) ∧ w.cell? ⟨b, off + j * 6 + 3, none⟩ = some (.int .i64 l[j].r.Y1) ∧ w.cell? ⟨b, off + j * 6 + 4, none⟩ = some (.int .i64 l[j].z0) ∧ w.cell? ⟨b, off + j * 6 + 5, none⟩ = some (.int .i64 l[j].z1)
theorem BxRow.below {w w' : World} {A : Option Addr} {l : List Bx} (h : BxRow w A l) (hb : Below w.heap.size w w') : BxRow w' A l := fun h0 => by
 obtain ⟨b, off, e, hl, hc⟩ := h h0
 refine ⟨b, off, e, Nat.lt_of_lt_of_le hl hb.size, fun j hj => ?_⟩
 obtain ⟨c0, c1, c2, c3, c4, c5⟩ := hc j hj
 have wc := fun o => hb.cell (p := ⟨b, o, none⟩) hl
 exact ⟨(wc _).trans c0, (wc _).trans c1, (wc _).trans c2, (wc _).trans c3, (wc _).trans c4, (wc _).trans c5⟩
theorem BxRow.nil (w : World) (A : Option Addr) : BxRow w A [] := fun h => absurd h (by simp)
theorem bases_next (l : List Bx) (z : Int) (k : Nat) (h : k < l.length) : basesB (l.take (k + 1)) z = basesB (l.take k) z ++ (if l[k].z0 ≤ z ∧ z < l[k].z1 then [l[k].r] else []) := by
 rw [List.take_succ_eq_append_getElem h, bases_append]
 congr 1
def RcRes (F : List Rc) (w : World) (e : Ending) (w' : World) : Prop := ∃ v, e = .returned v ∧ w'.ownsRow w.heap.size 68 4 v F.length (rcells F) ∧ Below w.heap.size w w'
structure GW9 (v : Value) (F : List Rc) (w wr : World) : Prop where
 own : wr.ownsRow w.heap.size 68 4 v F.length (rcells F)
 bel : Below w.heap.size w wr
set_option maxHeartbeats 16000000 in
theorem bbases_any (A : Option Addr) (cap : Nat) (l : List Bx) (z : Int) (w : World) (h1 : BxRow w A l) (hl : l.length ≤ 1000000) :
  Calls Tryz.prog 89 #[.slice A l.length cap, .int .i64 z] w (RcRes (basesB l z) w) := by
 have H1 := Lib.hid h1; clear h1
 have K0 : Hid (GW9 (.slice none 0 0) (basesB (l.take 0) z) w w) := Lib.hid ⟨World.ownsRow_nil _ _ _ _, Below.refl _ _⟩
 obtain ⟨i0, hi9, hz0, hz1, hz2⟩ := info_parts infoRect
 go_enter Tryz.func89, Tryz.ntmps89
 go_wp2
 go_loopw [5, 10] (fun v i wr => ∃ (k : Nat) (v0 : Value), k ≤ l.length ∧ i = .int .i64 k ∧ v0 = v ∧ Hid (GW9 v0 (basesB (l.take k) z) w wr)) (fun _ i _ => l.length - (intOf i).toNat)
 case atStart => exact ⟨0, _, Nat.zero_le _, rfl, rfl, K0⟩
 case round =>
  clear K0
  obtain ⟨k, v, hk, rfl, rfl, HK⟩ := hrel
  by_cases hlt : k < l.length
  ·obtain ⟨b1, o1, rfl, hb1, hv1⟩ := H1.out (by omega)
   obtain ⟨x0, x1, x2, x3, x4, x5⟩ := hv1 k hlt
   have wc := fun o => HK.out.bel.cell (p := ⟨b1, o, none⟩) hb1
   have x0 := (wc _).trans x0; have x1 := (wc _).trans x1; have x2 := (wc _).trans x2; have x3 := (wc _).trans x3; have x4 := (wc _).trans x4; have x5 := (wc _).trans x5
   have hbs := HK.out.bel.size
   have hbw : b1 < wr.heap.size := Nat.lt_of_lt_of_le hb1 hbs
   have n0 : (0 : Int) ≤ (k : Int) := by omega
   have n1 : (k : Int) < (l.length : Int) := by omega
   have HN := Lib.hid (bases_next l z k hlt)
   have hfl := bases_len (l.take k) z
   rw [List.length_take] at hfl
   have hfl : (basesB (l.take k) z).length ≤ 1000000 := by omega
   clear hv1 wc
   obtain ⟨u, hu⟩ : ∃ u, u = l[k] := ⟨_, rfl⟩
   rw [← hu] at x0 x1 x2 x3 x4 x5 HN
   clear hu
   generalize basesB (l.take k) z = F at *
   by_cases ca : u.z0 ≤ z
   ·by_cases cb : z < u.z1
    ·have HN2 : Hid (basesB (l.take (k + 1)) z = F ++ [u.r]) := Lib.hid (by rw [HN.out, if_pos ⟨ca, cb⟩])
     have HO := Lib.hid HK.out.own
     clear HN
     go_wp2_with (at_builtin; refine wpList_append_own _ rfl _ _ 30 rfl w.heap.size 68 i0 (.agg #[.int .i64 0, .int .i64 0, .int .i64 0, .int .i64 0]) 4 32 Tryz.underlying30 hi9 hz0 hz1 hz2 rfl (by decide) _ _ _ rfl ((HO.out.alloc _).alloc _) ⟨wr.heap.size + 1, 0, none⟩ 1 1 [.int .i64 u.r.X0, .int .i64 u.r.Y0, .int .i64 u.r.X1, .int .i64 u.r.Y1] rfl rfl ?c1 ?c2 ?c3 ?c4 ?c5 ?_)
     case c1 =>
      intro t u ht
      match t, ht with
      | 0, ht => simp at ht; subst ht; simp [Addr.add]
      | 1, ht => simp at ht; subst ht; simp [Addr.add]
      | 2, ht => simp at ht; subst ht; simp [Addr.add]
      | 3, ht => simp at ht; subst ht; simp [Addr.add]
     case c2 => intro u hu; simp only [List.mem_cons, List.not_mem_nil, or_false] at hu; rcases hu with rfl | rfl | rfl | rfl <;> rfl
     case c3 => unfold maxLen; omega
     case c4 => omega
     case c5 => simp; omega
     intro v' w4 hown' hgr _
     have HX : Hid (GW9 v' (basesB (l.take (k + 1)) z) w w4) := Lib.hid ⟨by rw [HN2.out, rcells_append, List.length_append]; exact hown', Below.grown ((HK.out.bel.alloc hbs _).alloc (by simp; omega) _) hgr (by simp; omega) (fun k hk => (HO.out.lt k hk).1)⟩
     clear hown' hgr HO HK HN2 x0 x1 x2 x3 x4 x5
     go_wp2_with fail
     go_roundw
     case rel => exact ⟨k + 1, _, by omega, by go_num, rfl, HX⟩
     case measure => simp [intOf]; omega
    ·have HX : Hid (∀ o, GW9 v (basesB (l.take (k + 1)) z) w (wr.alloc o)) := Lib.hid (fun o => ⟨by rw [HN.out, if_neg (fun h => cb h.2), List.append_nil]; exact HK.out.own.alloc _, HK.out.bel.alloc hbs _⟩)
     clear HN HK
     go_wp2_with fail
     go_roundw
     case rel => exact ⟨k + 1, _, by omega, by go_num, rfl, Lib.hid (HX.out _)⟩
     case measure => simp [intOf]; omega
   ·have HX : Hid (∀ o, GW9 v (basesB (l.take (k + 1)) z) w (wr.alloc o)) := Lib.hid (fun o => ⟨by rw [HN.out, if_neg (fun h => ca h.1), List.append_nil]; exact HK.out.own.alloc _, HK.out.bel.alloc hbs _⟩)
    clear HN HK
    go_wp2_with fail
    go_roundw
    case rel => exact ⟨k + 1, _, by omega, by go_num, rfl, Lib.hid (HX.out _)⟩
    case measure => simp [intOf]; omega
  ·obtain rfl : k = l.length := by omega
   have HX : Hid (GW9 v (basesB l z) w wr) := Lib.hid (by have := HK.out; rw [List.take_length] at this; exact this)
   clear HK
   go_wp2_with fail
   go_ret
   exact ⟨_, rfl, HX.out.own, HX.out.bel⟩
end Go.Proofs.YtngddecpfhlilaaGreat
namespace Go.Proofs.YtngddecpfhlilaaGreat
structure Es where
 lot : Int
 ar : List Rc
 top : Int
end Go.Proofs.YtngddecpfhlilaaGreat
