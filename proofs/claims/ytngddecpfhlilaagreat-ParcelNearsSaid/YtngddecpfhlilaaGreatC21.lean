/-
  Contracts of layer 13 (3): the counts.
  Contracts of the program's layer 6 (17): connected, in general.
  Contracts of the program's layer 6 (18): Parts, in general.
-/
import Derived.Test.YtngddecpfhlilaaGreatC12
import Derived.Test.YtngddecpfhlilaaGreatC13
import Derived.Test.YtngddecpfhlilaaGreatC09
import Derived.Test.YtngddecpfhlilaaGreatC14
import Derived.Test.YtngddecpfhlilaaGreatC20
import Derived.Laws.OwnMore
import Derived.Test.YtngddecpfhlilaaGreatC16
import Derived.Deep.Onto
set_option linter.unusedVariables false
set_option maxRecDepth 100000
namespace Go.Proofs.YtngddecpfhlilaaGreat
open Go.RowKit
theorem made_int (n : Nat) : madeCells #[Value.int .i64 0] n = (icells (List.replicate n 0)).toArray := by
 apply Array.ext
 ·simp [madeCells, icells]
 ·intro i h1 h2
  simp [madeCells, icells, Nat.mod_one]
theorem mkIs13 (n : Nat) (h : n ≤ 4398046511104) (w : World) : Sem.run Tryz.prog (Instr.makeSlice 118 (.int .i64 (n : Int)) (.int .i64 (n : Int))) w = .ok (.slice (some ⟨w.heap.size, 0, none⟩) n n) (w.alloc (.cells (icells (List.replicate n 0)).toArray 3)) := by
 obtain ⟨i, hi, hz, hs, hb⟩ := info_parts infoInt
 have hr := run_make (P := Tryz.prog) w 118 3 i _ (by first | rfl | kernel_rfl) hi hz .i64 .i64 n n (by omega) (Int.le_refl _) (by rw [hb]; omega) (by omega)
 rw [hs] at hr
 simp only [Int.toNat_natCast, Value.cells] at hr
 rw [made_int, Nat.mul_one] at hr
 exact hr
set_option maxHeartbeats 4000000 in
theorem newC_any (n m : Nat) (hm : m = n + 1) (h : n ≤ 2199023255552) (w : World) : Calls Tryz.prog 108 #[.int .i64 (n : Int)] w fun e w' => e = .returned (.slice (some ⟨w.heap.size, 0, none⟩) m m) ∧ w' = w.alloc (.cells (icells (List.replicate m 0)).toArray 3) := by
 have hmk := mkIs13 m (by omega)
 have e : (n : Int) + 1 = (m : Int) := by omega
 generalize (icells (List.replicate m 0)).toArray = Z at *
 clear hm
 go_enter Tryz.func108, Tryz.ntmps108
 go_wp2
 go_ret
 exact ⟨rfl, rfl⟩
def PreBd (pre : Nat → Int) : Prop := ∀ j, -4398046511104 ≤ pre j ∧ pre j ≤ 4398046511104
set_option maxHeartbeats 8000000 in
theorem before_any (B g : Nat) (c : List Int) (pre : Nat → Int) (i n : Nat) (w : World) (ho : w.ownsRow B 3 1 (.slice (some ⟨g, 0, none⟩) n n) n (icells c)) (hn : n = c.length) (hl : n ≤ 4398046511104) (hc : CntOk c pre) (hb : PreBd pre) (hi : i < n) :
  Calls Tryz.prog 110 #[.slice (some ⟨g, 0, none⟩) n n, .int .i64 (i : Int)] w (InIs (pre i) w) := by
 have HO := Lib.hid (fun j (h : j < n) => ho.cellAt j (by omega))
 have hg : g < w.heap.size := (ho.lt g rfl).2
 have HC := Lib.hid hc; have HB := Lib.hid hb; clear ho hc hb
 have HB0 := Lib.hid (Below.refl w.heap.size w)
 have HZ := Lib.hid HC.out.1
 have HN := Lib.hid hn; clear hn
 go_enter Tryz.func110, Tryz.ntmps110
 go_wp2
 go_loopw [1, 5] (fun x s wr => ∃ (k q : Nat) (z : Int), k ≤ i ∧ x = .int .i64 k ∧ s = .int .i64 z ∧ Hid (z + pre k = pre i) ∧ wr = w.drewN q) (fun x _ _ => (intOf x).toNat)
 case atStart => exact ⟨i, 0, 0, Nat.le_refl _, rfl, rfl, Lib.hid (by omega), rfl⟩
 case round =>
  obtain ⟨k, q, z, hk, rfl, rfl, hs, rfl⟩ := hrel
  by_cases hp : 0 < k
  ·have k0 : (0 : Int) < (k : Int) := by omega
   have hlb := lbN_bits hp (by omega)
   have hle := lbN_le hp (by omega)
   have hsum := HC.out.sum (q := k) (by omega) (by have := HN.out; omega)
   have hcell := HO.out k (by omega)
   have hx : (icells c)[k]? = some (.int .i64 (c[k]'(by have := HN.out; omega))) := by
    have hk2 : k < c.length := by have := HN.out; omega
    simp [icells, hk2]
   rw [hx] at hcell
   clear hx
   generalize (c[k]'(by have := HN.out; omega)) = y at *
   obtain ⟨m, hm⟩ : ∃ m, m = lbN k := ⟨_, rfl⟩
   rw [← hm] at hlb hle hsum
   have b1 := HB.out k; have b2 := HB.out (k - m); have b3 := HB.out i
   have hs1 := hs.out
   have HNX : Hid (z + y + pre (k - m) = pre i) := Lib.hid (by omega)
   have y1 : -9223372036854775808 ≤ z + y := by omega
   have y2 : z + y ≤ 9223372036854775807 := by omega
   have y3 : -9223372036854775808 ≤ y := by omega
   have y4 : y ≤ 9223372036854775807 := by omega
   clear b1 b2 b3 hs1 hsum hs
   have e1 : (k : Int) - (m : Int) = ((k - m : Nat) : Int) := by omega
   have n0 : (k : Int) < (n : Int) := by omega
   have HM := Lib.hid hm; clear hm
   go_wp2_with fail
   go_roundw
   case rel => exact ⟨k - m, _, z + y, by omega, by first | rfl | (congr 1), rfl, HNX, rfl⟩
   case measure => simp [intOf]; omega
  ·obtain rfl : k = 0 := by omega
   have hz : z = pre i := by have := hs.out; have := HZ.out; omega
   subst hz
   clear hs
   have b3 := HB.out i
   go_wp2
   go_ret
   exact ⟨rfl, by (repeat' first | exact Below.refl _ _ | assumption | (apply below_drewN) | (refine Below.setCell ?_ (by (try simp); (try omega)) _) | (refine Below.alloc ?_ (by (try simp); (try omega)) _) | (refine Below.trans ?_ (Below.mono (Hid.out (by assumption)) (by (try simp); (try omega)))))⟩
def AddedC (g n : Nat) (c : List Int) (pre : Nat → Int) (i : Nat) (st : Int) (w w' : World) : Prop := ∃ c', c'.length = c.length ∧ (∀ B, w.ownsRow B 3 1 (.slice (some ⟨g, 0, none⟩) n n) n (icells c) → w'.ownsRow B 3 1 (.slice (some ⟨g, 0, none⟩) n n) n (icells c')) ∧ CntOk c' (upP pre i st) ∧ w.grownBy w' (some g)
theorem icells_set (c : List Int) (k : Nat) (x : Int) : (icells c).set k (.int .i64 x) = icells (c.set k x) := by simp [icells, List.map_set]
set_option maxHeartbeats 8000000 in
theorem add_any (B g : Nat) (c : List Int) (pre : Nat → Int) (i n : Nat) (st : Int) (w : World) (ho : w.ownsRow B 3 1 (.slice (some ⟨g, 0, none⟩) n n) n (icells c)) (hn : n = c.length) (hl : n ≤ 4398046511104) (hc : CntOk c pre) (hb : PreBd pre) (hst : -1 ≤ st ∧ st ≤ 1) (hi : i < 4398046511104) :
  Calls Tryz.prog 111 #[.slice (some ⟨g, 0, none⟩) n n, .int .i64 (i : Int), .int .i64 st] w fun e w' => e = .returned (.tuple #[]) ∧ AddedC g n c pre i st w w' := by
 have hg : g < w.heap.size := (ho.lt g rfl).2
 have HO := Lib.hid ho
 have HB := Lib.hid hb; clear hb
 have HN := Lib.hid hn
 have H0 : Hid (∃ c', c'.length = n ∧ (∀ B, w.ownsRow B 3 1 (.slice (some ⟨g, 0, none⟩) n n) n (icells c) → w.ownsRow B 3 1 (.slice (some ⟨g, 0, none⟩) n n) n (icells c')) ∧ CntMid c' pre i st (i + 1) ∧ w.grownBy w (some g)) := Lib.hid ⟨c, hn.symm, fun B h => h, hc.mid i st (by omega), World.grownBy.refl w _⟩
 clear ho hc hn
 obtain ⟨p0, hp0⟩ : ∃ p0 : Nat, p0 = i + 1 := ⟨_, rfl⟩
 have e0 : (i : Int) + 1 = (p0 : Int) := by omega
 rw [← hp0] at H0
 have hp1 : p0 ≤ 4398046511104 := by omega
 have hp2 : 1 ≤ p0 := by omega
 clear hp0
 go_enter Tryz.func111, Tryz.ntmps111
 go_wp2
 go_loopw [1] (fun x wr => ∃ (p : Nat), x = .int .i64 p ∧ p ≤ 8796093022208 ∧ 1 ≤ p ∧ Hid (∃ c', c'.length = n ∧ (∀ B, w.ownsRow B 3 1 (.slice (some ⟨g, 0, none⟩) n n) n (icells c) → wr.ownsRow B 3 1 (.slice (some ⟨g, 0, none⟩) n n) n (icells c')) ∧ CntMid c' pre i st p ∧ w.grownBy wr (some g))) (fun x _ => 8796093022208 - (intOf x).toNat)
 case atStart => exact ⟨p0, rfl, by omega, by omega, H0⟩
 case round =>
  clear H0
  obtain ⟨p, rfl, hpm, hp1, hcc⟩ := hrel
  by_cases hlt : p < n
  ·have k0 : (p : Int) < (n : Int) := by omega
   have kn : (0 : Int) ≤ (p : Int) := by omega
   have hlb := lbN_bits (n := p) (by omega) (by omega)
   have hle := lbN_le (n := p) (by omega) (by omega)
   obtain ⟨c', hcl, hown, hmid, hgr⟩ := hcc.out
   have hO := hown B HO.out
   have hcell := hO.cellAt p (by omega)
   have hp2 : p < c'.length := by omega
   have hx : (icells c')[p]? = some (.int .i64 c'[p]) := by simp [icells, hp2]
   rw [hx] at hcell
   clear hx
   have hst2 := hmid.step hp2 (by omega)
   have hz := hmid.at1 p hp1 hp2
   rw [if_neg (by omega)] at hz
   have b1 := HB.out p; have b2 := HB.out (p - lbN p)
   have HSET := Lib.hid (fun B h => by have := ((hown B h).stored p (.int .i64 (c'[p] + st))).1; rw [icells_set] at this; exact this : ∀ B, w.ownsRow B 3 1 (.slice (some ⟨g, 0, none⟩) n n) n (icells c) → (wr.setCell ⟨g, p, none⟩ (.int .i64 (c'[p] + st))).ownsRow B 3 1 (.slice (some ⟨g, 0, none⟩) n n) n (icells (c'.set p (c'[p] + st))))
   have HGR := Lib.hid (hgr.trans (hO.stored p (.int .i64 (c'[p] + st))).2)
   have hfz := hO.frozenAt p
   have hgl : g < wr.heap.size := (hO.lt g rfl).2
   have HST2 := Lib.hid hst2
   have HCL := Lib.hid hcl
   unfold dif at hz
   generalize c'[p] = y at *
   have y1 : -9223372036854775808 ≤ y + st := by omega
   have y2 : y + st ≤ 9223372036854775807 := by omega
   have y3 : -9223372036854775808 ≤ y := by omega
   have y4 : y ≤ 9223372036854775807 := by omega
   clear hz b1 b2 hst2 hcc hgr hown hmid hcl hO
   obtain ⟨m, hm⟩ : ∃ m, m = lbN p := ⟨_, rfl⟩
   rw [← hm] at hlb hle HST2
   clear hm
   have hm2 : m ≤ p := hle.2
   go_wp2_with fail
   go_roundw
   case rel => exact ⟨p + m, by first | rfl | (congr 1), by omega, by omega, Lib.hid ⟨_, by simp; exact HCL.out, HSET.out, HST2.out, HGR.out⟩⟩
   case measure => simp [intOf]; omega
  ·have k0 : ¬ (p : Int) < (n : Int) := by omega
   have HF : Hid (AddedC g n c pre i st w wr) := Lib.hid (by
    obtain ⟨c', hcl, hown, hmid, hgr⟩ := hcc.out
    exact ⟨c', by rw [hcl]; exact HN.out, hown, hmid.done (by omega), hgr⟩)
   clear hcc
   go_wp2
   go_end0
   exact ⟨rfl, HF.out⟩
end Go.Proofs.YtngddecpfhlilaaGreat
namespace Go.Proofs.YtngddecpfhlilaaGreat
open Go.RowKit
theorem tkKj {v : Value} {P : Program} {ops : Array Oper} {Q : Exit → Act → World → Prop} {md : Region.Mode} {S : World → Prop} {i : Nat} {oi : Oper} {fuel : Nat} {listed : Array Bool} {a : Act} {w : World} (hi : ops[i]? = some oi) (h : wpAnyH P md ops Q S fuel (listed.setIfInBounds i true) (a.put oi.dst v) w) (hy : ∀ w, S w → (execOp a.eval oi).run P w = .ok (.value v) w := by (intro w hSw; (try dsimp only at hSw); go_simp); try with_reducible rfl) (hs : Region.noSelect ops = true := by kernel_rfl) (hf : Region.free md ops listed i = true := by kernel_rfl) (hr : (Region.ready md ops listed).contains i = true := by kernel_rfl) (hQ : ∀ c a w, Q (.panic c) (a.put oi.dst v) w → Q (.panic c) a w := by exact fun _ _ _ h => h) (hg : Region.wanted oi (yielded ops a.tmps) = true := by rfl) (hS : S w := by assumption) : wpAnyH P md ops Q S (fuel + 1) listed a w :=
 wpAnyH_take hi hs hf hr hQ (Or.inl ⟨hg, hy⟩) hS h
theorem sxKj : (∀ (a : Act) (v : Value), a.put none v = a) ∧ (∀ (a : Act) (d : Tmp) (v : Value), a.put (some d) v = { a with tmps := a.tmps.setIfInBounds d v }) ∧ (∀ {α : Type} (l : List α) (i : Nat) (x : α), l.toArray.setIfInBounds i x = (l.set i x).toArray) ∧ (∀ {α : Type} (l : List α) (x y : α), (x :: l).set 0 y = y :: l) ∧ (∀ {α : Type} (l : List α) (x y : α) (n : Nat), (x :: l).set (n + 1) y = x :: l.set n y) :=
 ⟨fun _ _ => rfl, fun _ _ _ => rfl, fun _ _ _ => List.setIfInBounds_toArray .., fun _ _ _ => rfl, fun _ _ _ _ => rfl⟩
def Ty (rb j g q eb : Nat) (u v : Rc) (w0 w : World) : Prop := w.cell? ⟨rb, j, none⟩ = some (.bool false) ∧ w.cell? ⟨g, q * 4, none⟩ = some (.int .i64 u.X0) ∧ w.cell? ⟨g, q * 4 + 1, none⟩ = some (.int .i64 u.Y0) ∧ w.cell? ⟨g, q * 4 + 2, none⟩ = some (.int .i64 u.X1) ∧ w.cell? ⟨g, q * 4 + 3, none⟩ = some (.int .i64 u.Y1) ∧ w.cell? ⟨eb, 0, none⟩ = some (.int .i64 v.X0) ∧ w.cell? ⟨eb, 1, none⟩ = some (.int .i64 v.Y0) ∧ w.cell? ⟨eb, 2, none⟩ = some (.int .i64 v.X1) ∧ w.cell? ⟨eb, 3, none⟩ = some (.int .i64 v.Y1) ∧ rb < w.heap.size ∧ g < w.heap.size ∧ eb < w.heap.size ∧ Hid (Below w0.heap.size w0 w)
theorem Ty.go {rb j g q eb : Nat} {u v : Rc} {w0 w w' : World} (h : Ty rb j g q eb u v w0 w) (hb : Below w.heap.size w w') : Ty rb j g q eb u v w0 w' := by
 obtain ⟨h0, a0, a1, a2, a3, b0, b1, b2, b3, l0, l1, l2, hh⟩ := h
 have c := fun b o (hb2 : b < w.heap.size) => hb.cell (p := ⟨b, o, none⟩) hb2
 exact ⟨(c _ _ l0).trans h0, (c _ _ l1).trans a0, (c _ _ l1).trans a1, (c _ _ l1).trans a2, (c _ _ l1).trans a3, (c _ _ l2).trans b0, (c _ _ l2).trans b1, (c _ _ l2).trans b2, (c _ _ l2).trans b3, Nat.lt_of_lt_of_le l0 hb.size, Nat.lt_of_lt_of_le l1 hb.size, Nat.lt_of_lt_of_le l2 hb.size, Lib.hid (hh.out.trans (hb.mono hh.out.size))⟩
theorem Ty.drewN {rb j g q eb : Nat} {u v : Rc} {w0 w : World} (h : Ty rb j g q eb u v w0 w) (n : Nat) : Ty rb j g q eb u v w0 (w.drewN n) := h.go (below_drewN (Below.refl _ _) n)
structure CP (rb n : Nat) (s : CSt) (vp : Value) (w wr : World) : Prop where
 part : wr.ownsRow w.heap.size 68 4 vp s.2.length (rcells s.2)
 flags : wr.ownsRow rb 4 1 (.slice (some ⟨rb, 0, none⟩) n n) n (bcells s.1)
 grown : w.grownBy wr (some rb)
theorem CP.go {rb n : Nat} {s : CSt} {vp : Value} {w wr w' : World} (h : CP rb n s vp w wr) (hb : Below wr.heap.size wr w') : CP rb n s vp w w' := ⟨own_go h.part hb, own_go h.flags hb, grown_below h.grown hb⟩
theorem grown_set {w w1 : World} {r i : Nat} {u : Value} (h : w.grownBy w1 (some r)) : w.grownBy (w1.setCell ⟨r, i, none⟩ u) (some r) :=
 grown_trans h ⟨rfl, rfl, rfl, by simp [World.setCell], fun k hk hne => set_other _ _ _ _ (fun e => hne (by rw [e]))⟩
theorem grown_own {w w1 w2 : World} {r : Nat} {row : Option Nat} (h : w.grownBy w1 (some r)) (k : w1.grownBy w2 row) (hrow : ∀ g, row = some g → w.heap.size ≤ g) : w.grownBy w2 (some r) :=
 ⟨k.os.trans h.os, k.tape.trans h.tape, k.output.trans h.output, Nat.le_trans h.size k.size, fun i hi hne => (k.block i (Nat.lt_of_lt_of_le hi h.size) (fun e => by have := hrow i e.symm; omega)).trans (h.block i hi hne)⟩
def ConnRes (rb n : Nat) (s : CSt) (w : World) (e : Ending) (w' : World) : Prop := ∃ vp, e = .returned vp ∧ CP rb n s vp w w'
set_option maxHeartbeats 32000000 in
theorem gconn_any (b1 o1 c1 rb : Nat) (a : List Rc) (R : List Bool) (i : Nat) (w : World) (ha : RRow w (some ⟨b1, o1, none⟩) a) (hi : i < a.length) (hal : a.length ≤ 1099511627776) (hbr : b1 ≠ rb)
  (hR : w.ownsRow rb 4 1 (.slice (some ⟨rb, 0, none⟩) a.length a.length) a.length (bcells R)) (hf : R.getD i true = false) :
  Calls Tryz.prog 169 #[.slice (some ⟨b1, o1, none⟩) a.length c1, .int .i64 i, .slice (some ⟨rb, 0, none⟩) a.length a.length] w (ConnRes rb a.length (connM a i R) w) := by
 obtain ⟨i0, hi9, hz0, hz1, hz2⟩ := info_parts infoRect
 obtain ⟨hb1, hv⟩ := ha.some (by omega)
 have hRl : R.length = a.length := by have := hR.1; simpa [bcells] using this
 have hrb : rb < w.heap.size := (hR.lt rb rfl).2
 obtain ⟨x0, x1, x2, x3⟩ := hv i hi
 have HCI := Lib.hid (conn_start hRl hf)
 have HFIN : Hid (connR a 0 (R.set i true, [a.getD i zR]) = connM a i R) := Lib.hid rfl
 rw [getD_in a zR hi] at HCI HFIN
 generalize connM a i R = fin at *
 obtain ⟨u, hu⟩ : ∃ u, u = a[i] := ⟨_, rfl⟩
 rw [← hu] at x0 x1 x2 x3 HCI HFIN
 have hfz := hR.frozenAt i
 have hcl := hR.cellAt i (by omega)
 have hcl2 : w.cell? ⟨rb, i, none⟩ = some (.bool (R[i]'(by omega))) := by rw [hcl]; simp [bcells, hRl, hi]
 have K0 : Hid (CP rb a.length (R.set i true, [u]) (.slice (some ⟨w.heap.size, 0, none⟩) 1 1) w ((w.setCell ⟨rb, i, none⟩ (.bool true)).alloc (.cells #[.int .i64 u.X0, .int .i64 u.Y0, .int .i64 u.X1, .int .i64 u.Y1] 68))) := Lib.hid (by
  have hw2 := hR.stored i (.bool true)
  have hsz : (w.setCell ⟨rb, i, none⟩ (.bool true)).heap.size = w.heap.size := by simp [World.setCell]
  have hg : w.grownBy (w.setCell ⟨rb, i, none⟩ (.bool true)) (some rb) := ⟨rfl, rfl, rfl, by rw [hsz]; exact Nat.le_refl _, fun k hk hne => set_other _ _ _ _ (fun e => hne (by rw [e]))⟩
  have hfl : (w.setCell ⟨rb, i, none⟩ (.bool true)).ownsRow rb 4 1 (.slice (some ⟨rb, 0, none⟩) a.length a.length) a.length (bcells (R.set i true)) := by
   rw [show bcells (R.set i true) = (bcells R).set i (.bool true) by simp [bcells, List.map_set]]; exact hw2.1
  generalize (w.setCell ⟨rb, i, none⟩ (.bool true)) = ws at *
  have hl := World.ownsRow_lit (base := ws.heap.size) ws #[.int .i64 u.X0, .int .i64 u.Y0, .int .i64 u.X1, .int .i64 u.Y1] 1 (Nat.le_refl _) (by unfold maxLen; omega) (e := 68) (size := 4) (by simp)
  have hz : (#[.int .i64 u.X0, .int .i64 u.Y0, .int .i64 u.X1, .int .i64 u.Y1] : Array Value).toList = rcells [u] := by simp [rcells]
  rw [hz, hsz] at hl
  exact ⟨hl, own_go hfl ((Below.refl _ _).alloc (Nat.le_refl _) _), grown_below hg ((Below.refl _ _).alloc (Nat.le_refl _) _)⟩)
 have HROW := Lib.hid ha
 have HRL := Lib.hid hRl
 generalize R[i]'(by omega) = bi at hcl2
 clear hv hR hcl hu ha hRl hf
 have n0 : (0 : Int) ≤ (i : Int) := by omega
 have n1 : (i : Int) < (a.length : Int) := by omega
 go_enter Tryz.func169, Tryz.ntmps169
 go_wp2_with fail
 clear x0 x1 x2 x3 hfz hcl2
 go_loopw [7, 8] (fun p nx wr => ∃ (q : Nat) (s : CSt) (vp : Value), vp = p ∧ nx = .int .i64 q ∧ q ≤ s.2.length ∧ 0 < s.2.length ∧ Hid (CInv a s) ∧ Hid (connR a q s = fin) ∧ Hid (CP rb a.length s vp w wr)) (fun _ nx _ => a.length - (intOf nx).toNat)
 case atStart => exact ⟨0, _, _, rfl, rfl, Nat.zero_le _, by simp, HCI, HFIN, K0⟩
 case round =>
  clear K0 HCI HFIN
  obtain ⟨q, s, vp, rfl, rfl, hq, hpos, HCI, HFIN, HC⟩ := hrel
  obtain ⟨g, cap, rfl, hgB, hgl⟩ := HC.out.part.form hpos
  by_cases hqs : q < s.2.length
  ·have hsl : s.2.length ≤ a.length := Nat.le_trans (Nat.le_add_right _ _) HCI.out.2
   have HSTEP := Lib.hid ((connR_step hqs hsl).symm.trans HFIN.out)
   obtain ⟨u, hu⟩ : ∃ u, u = s.2.getD q zR := ⟨_, rfl⟩
   rw [← hu] at HSTEP
   have HU : Hid (s.2[q]? = some u) := Lib.hid (by rw [hu, getD_in _ _ hqs]; exact List.getElem?_eq_getElem hqs)
   clear hu HFIN
   have q0 : (0 : Int) ≤ (q : Int) := by omega
   have q1 : (q : Int) < (s.2.length : Int) := by omega
   have q2 : IntKind.i64.wrap ((q : Int) + 1) = (q : Int) + 1 := IntWalk.i64_in _ (by omega)
   go_wp2_with fail
   go_loopw [7, 27] (fun p ii wr => ∃ (j : Nat) (t : CSt) (vp : Value), vp = p ∧ j ≤ a.length ∧ ii = .int .i64 j ∧ Hid (t = lookN a u j s) ∧ Hid (CP rb a.length t vp w wr)) (fun _ ii _ => a.length - (intOf ii).toNat)
   case atStart => exact ⟨0, s, _, rfl, Nat.zero_le _, rfl, Lib.hid rfl, HC⟩
   case round =>
    clear HC hgB hgl
    obtain ⟨j, t, vp, rfl, hj, rfl, HT, HC⟩ := hrel
    have HTI : Hid (CInv a t) := Lib.hid (by rw [HT.out]; exact lookN_inv HCI.out j)
    obtain ⟨Pr, hPr⟩ := lookN_grow (a := a) (u := u) (s := s) j
    rw [← HT.out] at hPr
    have hpl : s.2.length ≤ t.2.length := by rw [hPr, List.length_append]; omega
    have hpos2 : 0 < t.2.length := by omega
    have HUT : Hid (t.2[q]? = some u) := Lib.hid (by rw [hPr, List.getElem?_append_left hqs]; exact HU.out)
    clear hPr
    have htl : t.2.length ≤ a.length := Nat.le_trans (Nat.le_add_right _ _) HTI.out.2
    obtain ⟨g, cap, rfl, hgB, hgl⟩ := HC.out.part.form hpos2
    by_cases hlt : j < a.length
    ·have q3 : (q : Int) < (t.2.length : Int) := by omega
     obtain ⟨_, hv⟩ := HROW.out.some (by omega)
     obtain ⟨x0, x1, x2, x3⟩ := hv j hlt
     have wc : ∀ o, wr.cell? ⟨b1, o, none⟩ = w.cell? ⟨b1, o, none⟩ := fun o => by
      have := HC.out.grown.block b1 hb1 (fun e => by simp at e; exact hbr e)
      simp [World.cell?, this]
     have x0 := (wc _).trans x0; have x1 := (wc _).trans x1; have x2 := (wc _).trans x2; have x3 := (wc _).trans x3
     have hwsz := HC.out.grown.size
     have hfl := HC.out.flags.cellAt j (by omega)
     have hlen : t.1.length = a.length := HTI.out.1
     have hflag : wr.cell? ⟨rb, j, none⟩ = some (.bool (t.1.getD j true)) := by
      rw [hfl]; unfold bcells; rw [List.getElem?_map, List.getElem?_eq_getElem (by rw [hlen]; exact hlt), getD_in _ _ (by rw [hlen]; exact hlt)]; rfl
     have j0 : (0 : Int) ≤ (j : Int) := by omega
     have j1 : (j : Int) < (a.length : Int) := by omega
     obtain ⟨v, hv2⟩ : ∃ v, v = a.getD j zR := ⟨_, rfl⟩
     rw [← getD_in a zR hlt, ← hv2] at x0 x1 x2 x3
     have HLK : Hid (lookN a u (j + 1) s = if t.1.getD j true = false ∧ TouchR u v then (t.1.set j true, t.2 ++ [v]) else t) := Lib.hid (by
      show lookI a u j (lookN a u j s) = _
      rw [← HT.out, hv2]; rfl)
     obtain ⟨fl, hfl2⟩ : ∃ fl, fl = t.1.getD j true := ⟨_, rfl⟩
     rw [← hfl2] at hflag HLK
     have pc := fun k (hk : k < t.2.length * 4) => HC.out.part.cellAt k hk
     obtain ⟨e0, e1, e2, e3⟩ := rcells_at t.2 q (by omega)
     have htq : t.2[q]'(by omega) = u := by have := HUT.out; rw [List.getElem?_eq_getElem (by omega)] at this; exact Option.some.inj this
     rw [htq] at e0 e1 e2 e3
     have p0 := (pc _ (by omega)).trans e0; have p1 := (pc _ (by omega)).trans e1; have p2 := (pc _ (by omega)).trans e2; have p3 := (pc _ (by omega)).trans e3
     clear pc e0 e1 e2 e3 htq hv2 hfl hlen wc hv hfl2
     have hrbw : rb < wr.heap.size := by omega
     have halb : Below wr.heap.size wr (wr.alloc (.cells #[.int .i64 v.X0, .int .i64 v.Y0, .int .i64 v.X1, .int .i64 v.Y1] 68)) := (Below.refl _ _).alloc (Nat.le_refl _) _
     have HAL := Lib.hid halb; clear halb
     cases fl with
     | true =>
      have HNX : Hid (t = lookN a u (j + 1) s) := Lib.hid (by rw [HLK.out, if_neg (fun h => by have := h.1; cases this)])
      clear HLK p0 p1 p2 p3
      go_wp2_with fail
      go_quiet (fail)
      go_wp2_with fail
      go_roundw
      case rel => exact ⟨j + 1, t, _, rfl, by omega, by go_num, HNX, Lib.hid (HC.out.go (HAL.out.trans (below_drewN (Below.refl _ _) _)))⟩
      case measure => simp [intOf]; omega
     | false =>
      have E0 : Hid (Ty rb j g q wr.heap.size u v wr (wr.alloc (.cells #[.int .i64 v.X0, .int .i64 v.Y0, .int .i64 v.X1, .int .i64 v.Y1] 68))) := Lib.hid (by
       have h1 := HAL.out
       have hn := RcAt.new wr v _ rfl
       have cc := fun b o (hb2 : b < wr.heap.size) => h1.cell (p := ⟨b, o, none⟩) hb2
       exact ⟨(cc _ _ hrbw).trans hflag, (cc _ _ hgl).trans p0, (cc _ _ hgl).trans p1, (cc _ _ hgl).trans p2, (cc _ _ hgl).trans p3, hn.cell0, hn.cell1, hn.cell2, hn.cell3, Nat.lt_of_lt_of_le hrbw h1.size, Nat.lt_of_lt_of_le hgl h1.size, hn.lt, Lib.hid h1⟩)
      have HTO := Lib.hid (fun w' => ttouch_any u v w')
      clear p0 p1 p2 p3 hflag
      by_cases ht : TouchR u v
      ·have HNX : Hid ((t.1.set j true, t.2 ++ [v]) = lookN a u (j + 1) s) := Lib.hid (by rw [HLK.out, if_pos ⟨rfl, ht⟩])
       rw [decide_eq_true ht] at HTO
       clear ht HLK
       go_wp2_with fail
       refine wp_region_held_drew (S := fun w' => w'.cell? ⟨rb, j, none⟩ = some (.bool false) ∧ w'.cell? ⟨g, q * 4, none⟩ = some (.int .i64 u.X0) ∧ w'.cell? ⟨g, q * 4 + 1, none⟩ = some (.int .i64 u.Y0) ∧ w'.cell? ⟨g, q * 4 + 2, none⟩ = some (.int .i64 u.X1) ∧ w'.cell? ⟨g, q * 4 + 3, none⟩ = some (.int .i64 u.Y1) ∧ w'.cell? ⟨wr.heap.size, 0, none⟩ = some (.int .i64 v.X0) ∧ w'.cell? ⟨wr.heap.size, 1, none⟩ = some (.int .i64 v.Y0) ∧ w'.cell? ⟨wr.heap.size, 2, none⟩ = some (.int .i64 v.X1) ∧ w'.cell? ⟨wr.heap.size, 3, none⟩ = some (.int .i64 v.Y1) ∧ rb < w'.heap.size ∧ g < w'.heap.size ∧ wr.heap.size < w'.heap.size ∧ Hid (Below wr.heap.size wr w')) (by kernel_rfl) ?_ (fun hHeld => ?_)
       ·exact Ty.drewN E0.out 1
       refine tkKj (i := 0) (oi := ⟨some 32, .move (.tmp 2), 162, "region.go:171", #[], none⟩) rfl ?_
       try simp only [sxKj]
       refine tkKj (i := 1) (oi := ⟨some 33, .move (.tmp 9), 3, "region.go:171", #[], none⟩) rfl ?_
       try simp only [sxKj]
       refine tkKj (i := 2) (oi := ⟨some 34, .indexAddr 162 (.tmp 32) (.tmp 33), 0, "region.go:171", #[⟨0, .data⟩, ⟨1, .data⟩], none⟩) rfl ?_
       try simp only [sxKj]
       refine tkKj (i := 3) (oi := ⟨some 35, .load 4 (.tmp 34), 4, "region.go:171", #[⟨2, .data⟩], none⟩) rfl ?_
       try simp only [sxKj]
       refine tkKj (i := 4) (oi := ⟨some 36, .unOp .not 4 (.tmp 35), 4, "region.go:171", #[⟨3, .data⟩], none⟩) rfl ?_
       try simp only [sxKj]
       refine tkKj (i := 5) (oi := ⟨some 37, .move (.tmp 36), 4, "region.go:171", #[⟨4, .data⟩], none⟩) rfl ?_
       try simp only [sxKj]
       refine tkKj (i := 6) (oi := ⟨some 38, .move (.tmp 7), 30, "region.go:171", #[⟨5, .guard⟩], some (5, true)⟩) rfl ?_
       try simp only [sxKj]
       refine tkKj (i := 7) (oi := ⟨some 39, .move (.tmp 8), 3, "region.go:171", #[⟨5, .guard⟩], some (5, true)⟩) rfl ?_
       try simp only [sxKj]
       refine tkKj (i := 8) (oi := ⟨some 40, .indexAddr 30 (.tmp 38) (.tmp 39), 0, "region.go:171", #[⟨6, .data⟩, ⟨7, .data⟩, ⟨5, .guard⟩], some (5, true)⟩) rfl ?_
       try simp only [sxKj]
       refine tkKj (i := 9) (oi := ⟨some 41, .load 68 (.tmp 40), 68, "region.go:171", #[⟨8, .data⟩, ⟨5, .guard⟩], some (5, true)⟩) rfl ?_
       try simp only [sxKj]
       refine tkKj (i := 10) (oi := ⟨some 42, .load 68 (.tmp 10), 68, "region.go:171", #[⟨5, .guard⟩], some (5, true)⟩) rfl ?_
       try simp only [sxKj]
       refine wpAnyH_ready (rs := [11]) (by kernel_rfl) (by simp) ?_
       refine AllReadyH.cons (o := ⟨some 43, .call { callee := .value (.func 203), args := #[.tmp 41, .tmp 42], argTypes := #[68, 68] }, 4, "region.go:171", #[⟨9, .data⟩, ⟨10, .data⟩, ⟨5, .chain⟩, ⟨5, .guard⟩], some (5, true)⟩) rfl (fun K hK => ?_) AllReadyH.nil
       go_simp
       go_at_call 203
       refine (HTO.out _).mono ?_
       rintro e w' ⟨rfl, hb⟩
       try go_wp2_with fail
       refine hK.out _ _ (Ty.go ‹_› hb) (fun hHeld2 => ?_)
       clear hK K hHeld hb
       have hHeld := hHeld2; clear hHeld2
       try simp only [sxKj]
       refine tkKj (i := 12) (oi := ⟨some 44, .pick (.tmp 37) (.tmp 43) (.const (.bool false)), 4, "region.go:171", #[⟨5, .data⟩, ⟨11, .data⟩], none⟩) rfl ?_
       try simp only [sxKj]
       refine wpAnyH_done (by kernel_rfl) ?_ _
       have HBW := hHeld.2.2.2.2.2.2.2.2.2.2.2.2
       have HC2 := Lib.hid (HC.out.go HBW.out)
       have f0 := HC2.out.flags.frozenAt j
       have hk0 := hHeld.1
       have hz0' := hHeld.2.2.2.2.2.2.2.2.2.1
       have ec0 := hHeld.2.2.2.2.2.1; have ec1 := hHeld.2.2.2.2.2.2.1; have ec2 := hHeld.2.2.2.2.2.2.2.1; have ec3 := hHeld.2.2.2.2.2.2.2.2.1
       have ez := hHeld.2.2.2.2.2.2.2.2.2.2.2.1
       have ec : ∀ o, (w'.setCell ⟨rb, j, none⟩ (.bool true)).cell? ⟨wr.heap.size, o, none⟩ = w'.cell? ⟨wr.heap.size, o, none⟩ := fun o => by
        have := set_other w' ⟨rb, j, none⟩ (.bool true) wr.heap.size (by simp; omega)
        simp [World.cell?, this]
       have ed0 := (ec _).trans ec0; have ed1 := (ec _).trans ec1; have ed2 := (ec _).trans ec2; have ed3 := (ec _).trans ec3
       have HS2 : Hid (CP rb a.length (t.1.set j true, t.2) (.slice (some ⟨g, 0, none⟩) t.2.length cap) w (w'.setCell ⟨rb, j, none⟩ (.bool true))) := Lib.hid (by
        have hw2 := HC2.out.flags.stored j (.bool true)
        refine ⟨own_stays HC2.out.part (fun k hk => set_other _ _ _ _ (fun e => ?_)), ?_, grown_set HC2.out.grown⟩
        ·exact own_apart HC2.out.part HC2.out.flags (by decide) k hk (by rw [e]; rfl)
        ·rw [show bcells (t.1.set j true) = (bcells t.1).set j (.bool true) by simp [bcells, List.map_set]]; exact hw2.1)
       have hsz2 : (w'.setCell ⟨rb, j, none⟩ (.bool true)).heap.size = w'.heap.size := by simp [World.setCell]
       have hws : w.heap.size ≤ w'.heap.size := hsz2 ▸ HS2.out.grown.size
       have HNEW : Hid (∀ k x, [Value.int .i64 v.X0, .int .i64 v.Y0, .int .i64 v.X1, .int .i64 v.Y1][k]? = some x → ((w'.setCell ⟨rb, j, none⟩ (.bool true)).alloc (.cells #[.int .i64 v.X0, .int .i64 v.Y0, .int .i64 v.X1, .int .i64 v.Y1] 68)).cell? ((⟨w'.heap.size, 0, none⟩ : Addr).add k) = some x) := Lib.hid (by
        rw [← hsz2]
        generalize (w'.setCell ⟨rb, j, none⟩ (.bool true)) = ws
        intro k x hk
        match k, hk with
        | 0, hk => simp at hk; subst hk; simp [Addr.add]
        | 1, hk => simp at hk; subst hk; simp [Addr.add]
        | 2, hk => simp at hk; subst hk; simp [Addr.add]
        | 3, hk => simp at hk; subst hk; simp [Addr.add])
       have HO := Lib.hid HS2.out.part
       clear ec ec0 ec1 ec2 ec3 HC2 HC hHeld
       go_wp2_with (at_builtin; refine wpList_append_own _ rfl _ _ 30 rfl w.heap.size 68 i0 (.agg #[.int .i64 0, .int .i64 0, .int .i64 0, .int .i64 0]) 4 32 Tryz.underlying30 hi9 hz0 hz1 hz2 rfl (by decide) _ _ _ rfl (HO.out.alloc _) ⟨w'.heap.size, 0, none⟩ 1 1 [.int .i64 v.X0, .int .i64 v.Y0, .int .i64 v.X1, .int .i64 v.Y1] rfl rfl ?c1 ?c2 ?c3 ?c4 ?c5 ?_)
       case c2 => exact ⟨rfl, rfl, rfl, rfl⟩
       case c3 => unfold maxLen; omega
       case c4 => omega
       case c5 => first | omega | (simp; omega)
       intro v' w4 hown' hgr _
       have HX : Hid (CP rb a.length (t.1.set j true, t.2 ++ [v]) v' w w4) := Lib.hid (by
        have hal2 := HS2.out.go ((Below.refl _ (w'.setCell ⟨rb, j, none⟩ (.bool true))).alloc (Nat.le_refl _) (.cells #[.int .i64 v.X0, .int .i64 v.Y0, .int .i64 v.X1, .int .i64 v.Y1] 68))
        refine ⟨?_, own_kept hal2.part hal2.flags (by decide) hgr, grown_own hal2.grown hgr (fun k hk => (hal2.part.lt k hk).1)⟩
        rw [show rcells (t.2 ++ [v]) = rcells t.2 ++ [.int .i64 v.X0, .int .i64 v.Y0, .int .i64 v.X1, .int .i64 v.Y1] by rw [rcells_append]; simp [rcells], List.length_append]
        exact hown')
       clear hown' hgr HO HS2
       go_wp2_with fail
       go_roundw
       case rel => exact ⟨j + 1, _, _, rfl, by omega, by go_num, HNX, HX⟩
       case measure => simp [intOf]; omega
      ·have HNX : Hid (t = lookN a u (j + 1) s) := Lib.hid (by rw [HLK.out, if_neg (fun h => ht h.2)])
       rw [decide_eq_false ht] at HTO
       clear ht HLK
       go_wp2_with fail
       refine wp_region_held_drew (S := fun w' => w'.cell? ⟨rb, j, none⟩ = some (.bool false) ∧ w'.cell? ⟨g, q * 4, none⟩ = some (.int .i64 u.X0) ∧ w'.cell? ⟨g, q * 4 + 1, none⟩ = some (.int .i64 u.Y0) ∧ w'.cell? ⟨g, q * 4 + 2, none⟩ = some (.int .i64 u.X1) ∧ w'.cell? ⟨g, q * 4 + 3, none⟩ = some (.int .i64 u.Y1) ∧ w'.cell? ⟨wr.heap.size, 0, none⟩ = some (.int .i64 v.X0) ∧ w'.cell? ⟨wr.heap.size, 1, none⟩ = some (.int .i64 v.Y0) ∧ w'.cell? ⟨wr.heap.size, 2, none⟩ = some (.int .i64 v.X1) ∧ w'.cell? ⟨wr.heap.size, 3, none⟩ = some (.int .i64 v.Y1) ∧ rb < w'.heap.size ∧ g < w'.heap.size ∧ wr.heap.size < w'.heap.size ∧ Hid (Below wr.heap.size wr w')) (by kernel_rfl) ?_ (fun hHeld => ?_)
       ·exact Ty.drewN E0.out 1
       refine tkKj (i := 0) (oi := ⟨some 32, .move (.tmp 2), 162, "region.go:171", #[], none⟩) rfl ?_
       try simp only [sxKj]
       refine tkKj (i := 1) (oi := ⟨some 33, .move (.tmp 9), 3, "region.go:171", #[], none⟩) rfl ?_
       try simp only [sxKj]
       refine tkKj (i := 2) (oi := ⟨some 34, .indexAddr 162 (.tmp 32) (.tmp 33), 0, "region.go:171", #[⟨0, .data⟩, ⟨1, .data⟩], none⟩) rfl ?_
       try simp only [sxKj]
       refine tkKj (i := 3) (oi := ⟨some 35, .load 4 (.tmp 34), 4, "region.go:171", #[⟨2, .data⟩], none⟩) rfl ?_
       try simp only [sxKj]
       refine tkKj (i := 4) (oi := ⟨some 36, .unOp .not 4 (.tmp 35), 4, "region.go:171", #[⟨3, .data⟩], none⟩) rfl ?_
       try simp only [sxKj]
       refine tkKj (i := 5) (oi := ⟨some 37, .move (.tmp 36), 4, "region.go:171", #[⟨4, .data⟩], none⟩) rfl ?_
       try simp only [sxKj]
       refine tkKj (i := 6) (oi := ⟨some 38, .move (.tmp 7), 30, "region.go:171", #[⟨5, .guard⟩], some (5, true)⟩) rfl ?_
       try simp only [sxKj]
       refine tkKj (i := 7) (oi := ⟨some 39, .move (.tmp 8), 3, "region.go:171", #[⟨5, .guard⟩], some (5, true)⟩) rfl ?_
       try simp only [sxKj]
       refine tkKj (i := 8) (oi := ⟨some 40, .indexAddr 30 (.tmp 38) (.tmp 39), 0, "region.go:171", #[⟨6, .data⟩, ⟨7, .data⟩, ⟨5, .guard⟩], some (5, true)⟩) rfl ?_
       try simp only [sxKj]
       refine tkKj (i := 9) (oi := ⟨some 41, .load 68 (.tmp 40), 68, "region.go:171", #[⟨8, .data⟩, ⟨5, .guard⟩], some (5, true)⟩) rfl ?_
       try simp only [sxKj]
       refine tkKj (i := 10) (oi := ⟨some 42, .load 68 (.tmp 10), 68, "region.go:171", #[⟨5, .guard⟩], some (5, true)⟩) rfl ?_
       try simp only [sxKj]
       refine wpAnyH_ready (rs := [11]) (by kernel_rfl) (by simp) ?_
       refine AllReadyH.cons (o := ⟨some 43, .call { callee := .value (.func 203), args := #[.tmp 41, .tmp 42], argTypes := #[68, 68] }, 4, "region.go:171", #[⟨9, .data⟩, ⟨10, .data⟩, ⟨5, .chain⟩, ⟨5, .guard⟩], some (5, true)⟩) rfl (fun K hK => ?_) AllReadyH.nil
       go_simp
       go_at_call 203
       refine (HTO.out _).mono ?_
       rintro e w' ⟨rfl, hb⟩
       try go_wp2_with fail
       refine hK.out _ _ (Ty.go ‹_› hb) (fun hHeld2 => ?_)
       clear hK K hHeld hb
       have hHeld := hHeld2; clear hHeld2
       try simp only [sxKj]
       refine tkKj (i := 12) (oi := ⟨some 44, .pick (.tmp 37) (.tmp 43) (.const (.bool false)), 4, "region.go:171", #[⟨5, .data⟩, ⟨11, .data⟩], none⟩) rfl ?_
       try simp only [sxKj]
       refine wpAnyH_done (by kernel_rfl) ?_ _
       go_wp2_with fail
       go_roundw
       case rel => exact ⟨j + 1, t, _, rfl, by omega, by go_num, HNX, Lib.hid (HC.out.go hHeld.2.2.2.2.2.2.2.2.2.2.2.2.out)⟩
       case measure => simp [intOf]; omega
    ·obtain rfl : j = a.length := by omega
     go_wp2_with fail
     go_roundw
     case rel => exact ⟨q + 1, t, _, rfl, by go_num, by omega, hpos2, HTI, Lib.hid (by rw [HT.out]; exact HSTEP.out), HC⟩
     case measure => simp [intOf]; omega
  ·have HE : Hid (s = fin) := Lib.hid ((connR_end hqs).symm.trans HFIN.out)
   have q1 : ¬ (q : Int) < (s.2.length : Int) := by omega
   go_wp2_with fail
   go_ret
   exact ⟨_, rfl, by rw [← HE.out]; exact HC.out⟩
end Go.Proofs.YtngddecpfhlilaaGreat
namespace Go.Proofs.YtngddecpfhlilaaGreat
open Go.RowKit
theorem made_bool (n : Nat) : madeCells #[.bool false] (n * 1) = (bcells (List.replicate n false)).toArray := by
 apply Array.ext
 ·simp [madeCells, bcells]
 ·intro i h1 h2
  simp [madeCells, bcells, Nat.mod_one]
theorem mkBs (n : Nat) (h : n ≤ 200) (w : World) : Sem.run Tryz.prog (Instr.makeSlice 162 (.int .i64 (n : Int)) (.int .i64 (n : Int))) w = .ok (.slice (some ⟨w.heap.size, 0, none⟩) n n) (w.alloc (.cells (bcells (List.replicate n false)).toArray 4)) := by
 obtain ⟨i, hi, hz, hs, hb⟩ := info_parts infoBool
 have hr := run_make (P := Tryz.prog) w 162 4 i _ (by first | rfl | kernel_rfl) hi hz .i64 .i64 n n (by omega) (Int.le_refl _) (by rw [hb]; omega) (by omega)
 rw [hs] at hr
 simp only [Int.toNat_natCast, Value.cells] at hr
 rw [made_bool] at hr
 exact hr
structure PL (rb n : Nat) (R : List Bool) (L : List (List Rc)) (Vs : List Value) (vp : Value) (w wr : World) : Prop where
 own : wr.ownsRow w.heap.size 30 1 vp L.length Vs
 rows : ∀ j (h : j < L.length), ∃ v, Vs[j]? = some v ∧ wr.ownsRow w.heap.size 68 4 v L[j].length (rcells L[j])
 flags : wr.ownsRow rb 4 1 (.slice (some ⟨rb, 0, none⟩) n n) n (bcells R)
 bel : Below w.heap.size w wr
section
variable {rb n : Nat} {R : List Bool} {L : List (List Rc)} {Vs : List Value} {vp : Value} {w wr w' : World}
theorem PL.go (h : PL rb n R L Vs vp w wr) (hb : Below wr.heap.size wr w') : PL rb n R L Vs vp w w' :=
 ⟨own_go h.own hb, fun j hj => by obtain ⟨v, h1, h2⟩ := h.rows j hj; exact ⟨v, h1, own_go h2 hb⟩, own_go h.flags hb, h.bel.trans (hb.mono h.bel.size)⟩
theorem PL.grow {R' : List Bool} (h : PL rb n R L Vs vp w wr) (hg : wr.grownBy w' (some rb)) (hf : w'.ownsRow rb 4 1 (.slice (some ⟨rb, 0, none⟩) n n) n (bcells R')) (hr : w.heap.size ≤ rb) : PL rb n R' L Vs vp w w' := by
 have far : ∀ {e s m : Nat} {v : Value} {xs : List Value}, e ≠ 4 → wr.ownsRow w.heap.size e s v m xs → w'.ownsRow w.heap.size e s v m xs := fun hne ho =>
  own_stays ho (fun g hgg => hg.block g (ho.lt g hgg).2 (fun e => by
   exact own_apart ho h.flags hne g hgg (by rw [e]; rfl)))
 exact ⟨far (by decide) h.own, fun j hj => by obtain ⟨v, h1, h2⟩ := h.rows j hj; exact ⟨v, h1, far (by decide) h2⟩, hf,
  ⟨hg.os.trans h.bel.os, hg.tape.trans h.bel.tape, hg.output.trans h.bel.output, Nat.le_trans h.bel.size hg.size, fun i hi => (hg.block i (Nat.lt_of_lt_of_le hi h.bel.size) (fun e => by injection e with e; omega)).trans (h.bel.block i hi)⟩⟩
theorem PL.add {M : List Rc} {v v' : Value} (h : PL rb n R L Vs vp w wr) (hown : w'.ownsRow w.heap.size 30 1 v' (L.length + 1) (Vs ++ [v])) (hg : wr.grownBy w' vp.ownBlock) (hn : wr.ownsRow w.heap.size 68 4 v M.length (rcells M)) : PL rb n R (L ++ [M]) (Vs ++ [v]) v' w w' := by
 have hl : Vs.length = L.length := by have := h.own.1; omega
 refine ⟨by rw [List.length_append]; exact hown, fun j hj => ?_, own_kept h.own h.flags (by decide) hg, Below.grown h.bel hg h.bel.size (fun k hk => (h.own.lt k hk).1)⟩
 by_cases e : j < L.length
 ·obtain ⟨u, h1, h2⟩ := h.rows j e
  rw [List.getElem_append_left e, List.getElem?_append_left (by omega)]
  exact ⟨u, h1, own_kept h.own h2 (by decide) hg⟩
 ·have hj' : j = L.length := by simp at hj; omega
  subst hj'
  refine ⟨v, by rw [List.getElem?_append_right (by omega), hl]; simp, ?_⟩
  have : (L ++ [M])[L.length]'hj = M := by simp
  rw [this]
  exact own_kept h.own hn (by decide) hg
end
def PartsRes (L : List (List Rc)) (w : World) (e : Ending) (w' : World) : Prop := ∃ vp Vs, e = .returned vp ∧ w'.ownsRow w.heap.size 30 1 vp L.length Vs ∧ (∀ j (h : j < L.length), ∃ v, Vs[j]? = some v ∧ w'.ownsRow w.heap.size 68 4 v L[j].length (rcells L[j])) ∧ Below w.heap.size w w'
noncomputable def partsL (k : Nat) (a : List Rc) : List (List Rc) := (partsN a k).2.map fun p => (ofR p).1
noncomputable def partsR (a : List Rc) : List (List Rc) := partsL a.length a
theorem partsL_yes {a : List Rc} {k : Nat} (c : (partsN a k).1.getD k true = false) : (partsN a (k + 1)).1 = (connM a k (partsN a k).1).1 ∧ partsL (k + 1) a = partsL k a ++ [(ofR (connM a k (partsN a k).1).2).1] := by
 have e : partsN a (k + 1) = ((connM a k (partsN a k).1).1, (partsN a k).2 ++ [(connM a k (partsN a k).1).2]) := by
  show (if (partsN a k).1.getD k true = false then _ else _) = _
  rw [if_pos c]
 unfold partsL
 rw [e]
 simp
theorem partsL_no {a : List Rc} {k : Nat} (c : ¬ (partsN a k).1.getD k true = false) : (partsN a (k + 1)).1 = (partsN a k).1 ∧ partsL (k + 1) a = partsL k a := by
 have e : partsN a (k + 1) = partsN a k := by
  show (if (partsN a k).1.getD k true = false then _ else _) = _
  rw [if_neg c]
 unfold partsL
 rw [e]
 exact ⟨rfl, rfl⟩
set_option maxHeartbeats 16000000 in
theorem gparts_any (A : Option Addr) (cap : Nat) (a : List Rc) (w : World) (h : RIn w A cap a) (hr : RegP a) : Calls Tryz.prog 133 #[.slice A a.length cap] w (PartsRes (partsR a) w) := by
 have RA := Lib.hid (gright_yes A cap a w h.row h.len h.room h.room2 hr)
 have HROW := Lib.hid h.row
 have hal := hr.2
 clear h hr
 have hmk := mkBs a.length hal
 obtain ⟨i0, hi9, hz0, hz1, hz2⟩ := info_parts infoRects
 have HZ : Hid (∀ w1 : World, Below w.heap.size w w1 → PL w1.heap.size a.length (partsN a 0).1 (partsL 0 a) [] (.slice none 0 0) w (w1.alloc (.cells (bcells (List.replicate a.length false)).toArray 4))) := Lib.hid (fun w1 hb => by
  refine ⟨World.ownsRow_nil _ _ _ _, fun j hj => by simp [partsL, partsN] at hj, ?_, hb.alloc hb.size _⟩
  have hl := World.ownsRow_lit (base := w1.heap.size) w1 (bcells (List.replicate a.length false)).toArray a.length (Nat.le_refl _) (by unfold maxLen; omega) (e := 4) (size := 1) (by simp [bcells])
  exact hl)
 generalize (bcells (List.replicate a.length false)).toArray = Z at *
 go_enter Tryz.func133, Tryz.ntmps133
 go_wp2_with fail
 refine RA.out.mono ?_
 rintro e1 w1 ⟨rfl, hb⟩
 have HB1 := Lib.hid hb; clear hb RA
 have P0 := Lib.hid (HZ.out w1 HB1.out)
 go_wp2_with fail
 clear hmk HZ
 have hrbw := HB1.out.size
 generalize hrbe : w1.heap.size = rb at *
 have HRBE := Lib.hid hrbe; clear hrbe
 go_loopw [3, 16] (fun p i wr => ∃ (k : Nat) (vp : Value) (Vs : List Value), k ≤ a.length ∧ i = .int .i64 k ∧ vp = p ∧ Hid (PL rb a.length (partsN a k).1 (partsL k a) Vs vp w wr)) (fun _ i _ => a.length - (intOf i).toNat)
 case atStart => exact ⟨0, _, [], by omega, rfl, rfl, P0⟩
 case round =>
  clear P0
  obtain ⟨k, vp, Vs, hk, rfl, rfl, HP⟩ := hrel
  by_cases hlt : k < a.length
  ·obtain ⟨b1, o1, rfl, hb1, _⟩ := HROW.out (by omega)
   have j0 : (0 : Int) ≤ (k : Int) := by omega
   have j1 : (k : Int) < (a.length : Int) := by omega
   have hlen := partsN_len a k
   have hfl := HP.out.flags.cellAt k (by omega)
   have hflag : wr.cell? ⟨rb, k, none⟩ = some (.bool ((partsN a k).1.getD k true)) := by
    rw [hfl]; unfold bcells; rw [List.getElem?_map, List.getElem?_eq_getElem (by rw [hlen]; exact hlt), getD_in _ _ (by rw [hlen]; exact hlt)]; rfl
   clear hfl
   by_cases c : (partsN a k).1.getD k true = false
   ·have hpl := partsL_yes c
    have HNX := Lib.hid hpl
    have HC := Lib.hid (gconn_any b1 o1 cap rb a (partsN a k).1 k wr (HROW.out.below HP.out.bel) hlt (by omega) (by omega) HP.out.flags c)
    have hcl := (connM_len hlen c).2
    rw [c] at hflag
    have hpk : (partsL k a).length ≤ k := by unfold partsL; rw [List.length_map]; exact partsN_le a k
    generalize connM a k (partsN a k).1 = S at *
    generalize (partsN a k).1 = R at *
    generalize partsL k a = L at *
    clear c hpl hlen
    go_wp2_with fail
    refine HC.out.mono ?_
    rintro e w2 ⟨vq, rfl, hco⟩
    have HCO := Lib.hid hco; clear hco hflag HC
    have HP2 := Lib.hid (HP.out.grow HCO.out.grown HCO.out.flags hrbw)
    obtain ⟨A2, c2, rfl, hpr, _⟩ := own_rects HCO.out.part
    have HOF := Lib.hid (gof_any A2 c2 S.2 w2 hpr (by omega))
    clear hpr HCO HP
    go_wp2_with fail
    refine HOF.out.mono ?_
    rintro e w3 hf
    obtain ⟨A3, c3, rfl, how3, hb3⟩ := hf.parts
    have HP3 := Lib.hid (HP2.out.go hb3)
    have HN3 := Lib.hid (World.ownsRow.mono how3 (by exact HP2.out.bel.size) : w3.ownsRow w.heap.size 68 4 (.slice A3 (ofR S.2).1.length c3) (ofR S.2).1.length (rcells (ofR S.2).1))
    clear hf hb3 HOF how3 HP2
    generalize (ofR S.2).1 = M at *
    generalize (ofR S.2).2 = e3 at *
    obtain ⟨n3, hn3⟩ : ∃ n3, n3 = M.length := ⟨_, rfl⟩
    rw [← hn3] at HN3
    rw [← hn3]
    have HM := Lib.hid hn3; clear hn3
    have hsz3 := HP3.out.bel.size
    have HO3 := Lib.hid HP3.out.own
    go_wp2_with (at_builtin; refine wpList_append_own _ rfl _ _ 108 rfl w.heap.size 30 i0 (.slice none 0 0) 1 24 Tryz.underlying108 hi9 hz0 hz1 hz2 rfl (by decide) _ _ _ rfl (HO3.out.alloc _) ⟨w3.heap.size, 0, none⟩ 1 1 [.slice A3 n3 c3] rfl rfl ?c1 ?c2 ?c3 ?c4 ?c5 ?_)
    case c1 =>
     intro t u ht
     match t, ht with
     | 0, ht => simp at ht; subst ht; simp [Addr.add]
    case c2 => intro u hu; simp at hu; subst hu; rfl
    case c3 => unfold maxLen; omega
    case c4 => omega
    case c5 => simp; omega
    intro v' w4 hown' hgr _
    have HP4 : Hid (PL rb a.length (partsN a (k + 1)).1 (partsL (k + 1) a) (Vs ++ [.slice A3 n3 c3]) v' w w4) := Lib.hid (by
     rw [HNX.out.1, HNX.out.2]
     have hz := HP3.out.go ((Below.refl w3.heap.size w3).alloc (Nat.le_refl _) (.cells #[.slice A3 n3 c3] 30))
     refine hz.add hown' hgr ?_
     rw [← HM.out]
     exact own_go HN3.out ((Below.refl w3.heap.size w3).alloc (Nat.le_refl _) (.cells #[.slice A3 n3 c3] 30)))
    clear hown' hgr HO3 HN3 HP3
    go_wp2_with fail
    go_roundw
    case rel => exact ⟨k + 1, _, _, by omega, by go_num, rfl, HP4⟩
    case measure => simp [intOf]; omega
   ·have hpl := partsL_no c
    have HP4 : Hid (PL rb a.length (partsN a (k + 1)).1 (partsL (k + 1) a) Vs vp w wr) := Lib.hid (by rw [hpl.1, hpl.2]; exact HP.out)
    rw [Bool.not_eq_false] at c
    rw [c] at hflag
    clear c hpl HP hlen
    go_wp2_with fail
    go_roundw
    case rel => exact ⟨k + 1, _, _, by omega, by go_num, rfl, HP4⟩
    case measure => simp [intOf]; omega
  ·obtain rfl : k = a.length := by omega
   go_wp2_with fail
   go_ret
   exact ⟨_, _, rfl, HP.out.own, HP.out.rows, HP.out.bel⟩
end Go.Proofs.YtngddecpfhlilaaGreat
