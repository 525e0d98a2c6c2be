/-
  PlaneTells: the walk of the law.
-/
import Derived.Test.YtkjblmfmaenllaaGreatR4
import Derived.Test.YtkjblmfmaenllaaGreatWn
import Derived.Test.YtkjblmfmaenllaaGreatWb
import Derived.Test.YtkjblmfmaenllaaGreatR7
import Derived.Test.YtkjblmfmaenllaaGreatRy
import Derived.Test.YtkjblmfmaenllaaGreatRe
set_option linter.unusedVariables false
set_option maxRecDepth 100000
namespace Go.Proofs.YtkjblmfmaenllaaGreat
open Go.RowKit

theorem FC.eq {r : Rc} {l : List Pl} {S : List Sl} {x y : P3 × Bool} (h : FC r l S x) (k : FC r l S y) : x = y := by
  by_cases c : ArgOk r l ∧ SolP S
  · exact (h.1 c).eq (k.1 c)
  · rw [h.2 c, k.2 c]
theorem AlIs.is {r : Rc} {l : List Pl} {S : List Sl} {b : Bool} (hb : b = true ↔ (ArgOk r l ∧ SolP S) ∧ AllB r l S) {w w' : World} {e : Ending} (h : AlIs r l S w e w') : BlIs b w e w' := by
  obtain ⟨c, hc, k⟩ := h
  have : c = b := by rw [Bool.eq_iff_iff, hc, hb]
  subst this
  exact k
def OfE (S : List Sl) (n : Nat) (er : Int) (w : World) (e : Ending) (w' : World) : Prop := ∃ A c, e = .returned (.tuple #[.slice A n c, .int .i64 er]) ∧ SIn w' A c S ∧ Below w.heap.size w w'
def RmF (R : List Rc) (n : Nat) (er : Int) (w : World) (e : Ending) (w' : World) : Prop := ∃ A, e = .returned (.tuple #[.slice A n n, .int .i64 er]) ∧ RRow w' A R ∧ Below w.heap.size w w'
set_option maxHeartbeats 2000000 in
theorem mfew_any (A : Option Addr) (cap : Nat) (l : List Pl) (A2 : Option Addr) (c2 : Nat) (s : List Bx) (w : World) :
    Calls Tryz.prog 13 #[.slice A l.length cap, .slice A2 s.length c2] w (BlIs (decide (l.length ≤ 12 ∧ s.length ≤ 12)) w) := by
  by_cases c0 : (l.length : Int) ≤ 12
  · by_cases c1 : (s.length : Int) ≤ 12
    · rw [show decide (l.length ≤ 12 ∧ s.length ≤ 12) = true from decide_eq_true ⟨by omega, by omega⟩]
      go_enter Tryz.func13, Tryz.ntmps13
      go_wp2
      go_ret
      exact ⟨rfl, by (repeat' first | exact Below.refl _ _ | assumption | (apply below_drewN) | (refine Below.setCell ?_ (by (try simp); (try omega)) _) | (refine Below.alloc ?_ (by (try simp); (try omega)) _) | (refine Below.trans ?_ (Below.mono (Hid.out (by assumption)) (by (try simp); (try omega)))))⟩
    · rw [show decide (l.length ≤ 12 ∧ s.length ≤ 12) = false from decide_eq_false (by omega)]
      go_enter Tryz.func13, Tryz.ntmps13
      go_wp2
      go_ret
      exact ⟨by first | rfl | (apply ret_bl; rw [decide_eq_false_iff_not]; omega), by (repeat' first | exact Below.refl _ _ | assumption | (apply below_drewN) | (refine Below.setCell ?_ (by (try simp); (try omega)) _) | (refine Below.alloc ?_ (by (try simp); (try omega)) _) | (refine Below.trans ?_ (Below.mono (Hid.out (by assumption)) (by (try simp); (try omega)))))⟩
  · rw [show decide (l.length ≤ 12 ∧ s.length ≤ 12) = false from decide_eq_false (by omega)]
    go_enter Tryz.func13, Tryz.ntmps13
    go_wp2
    go_ret
    exact ⟨by first | rfl | (apply ret_bl; rw [decide_eq_false_iff_not]; omega), by (repeat' first | exact Below.refl _ _ | assumption | (apply below_drewN) | (refine Below.setCell ?_ (by (try simp); (try omega)) _) | (refine Below.alloc ?_ (by (try simp); (try omega)) _) | (refine Below.trans ?_ (Below.mono (Hid.out (by assumption)) (by (try simp); (try omega)))))⟩
def T10 (g g1 g2 : Nat) (r : Rc) (p : P3) (W w' : World) : Prop := w'.cell? ⟨g, 0, none⟩ = some (.int .i64 r.X0) ∧ w'.cell? ⟨g, 1, none⟩ = some (.int .i64 r.Y0) ∧ w'.cell? ⟨g, 2, none⟩ = some (.int .i64 r.X1) ∧ w'.cell? ⟨g, 3, none⟩ = some (.int .i64 r.Y1) ∧ w'.cell? ⟨g1, 0, none⟩ = some (.int .i64 p.x) ∧ w'.cell? ⟨g1, 1, none⟩ = some (.int .i64 p.y) ∧ w'.cell? ⟨g1, 2, none⟩ = some (.int .i64 p.z) ∧ w'.cell? ⟨g2, 0, none⟩ = some (.int .i64 p.x) ∧ w'.cell? ⟨g2, 1, none⟩ = some (.int .i64 p.y) ∧ w'.cell? ⟨g2, 2, none⟩ = some (.int .i64 p.z) ∧ g < w'.heap.size ∧ g1 < w'.heap.size ∧ g2 < w'.heap.size ∧ Hid (Below W.heap.size W w')
theorem T10.bel {g g1 g2 : Nat} {r : Rc} {p : P3} {W w : World} (h : T10 g g1 g2 r p W w) : Below W.heap.size W w := by
  obtain ⟨a0, a1, a2, a3, a4, a5, a6, a7, a8, a9, l0, l1, l2, hz⟩ := h
  exact hz.out
theorem T10.go {g g1 g2 : Nat} {r : Rc} {p : P3} {W w w' : World} (h : T10 g g1 g2 r p W w) (hb : Below w.heap.size w w') : T10 g g1 g2 r p W w' := by
  obtain ⟨a0, a1, a2, a3, a4, a5, a6, a7, a8, a9, l0, l1, l2, hz⟩ := h
  have t0 := fun o => hb.cell (p := ⟨g, o, none⟩) l0
  have t1 := fun o => hb.cell (p := ⟨g1, o, none⟩) l1
  have t2 := fun o => hb.cell (p := ⟨g2, o, none⟩) l2
  exact ⟨(t0 _).trans a0, (t0 _).trans a1, (t0 _).trans a2, (t0 _).trans a3, (t1 _).trans a4, (t1 _).trans a5, (t1 _).trans a6, (t2 _).trans a7, (t2 _).trans a8, (t2 _).trans a9, Nat.lt_of_lt_of_le l0 hb.size, Nat.lt_of_lt_of_le l1 hb.size, Nat.lt_of_lt_of_le l2 hb.size, Lib.hid (hz.out.trans (hb.mono hz.out.size))⟩
theorem T10.drewN {g g1 g2 : Nat} {r : Rc} {p : P3} {W w : World} (h : T10 g g1 g2 r p W w) (n : Nat) : T10 g g1 g2 r p W (w.drewN n) := h.go (below_drewN (Below.refl _ _) n)
def T14 (g : Nat) (r : Rc) (ba oa k : Nat) (u : Pl) (W w' : World) : Prop := w'.cell? ⟨g, 0, none⟩ = some (.int .i64 r.X0) ∧ w'.cell? ⟨g, 1, none⟩ = some (.int .i64 r.Y0) ∧ w'.cell? ⟨g, 2, none⟩ = some (.int .i64 r.X1) ∧ w'.cell? ⟨g, 3, none⟩ = some (.int .i64 r.Y1) ∧ w'.cell? ⟨ba, oa + k * 4, none⟩ = some (.int .i64 u.s) ∧ w'.cell? ⟨ba, oa + k * 4 + 1, none⟩ = some (.int .i64 u.b) ∧ w'.cell? ⟨ba, oa + k * 4 + 2, none⟩ = some (.int .i64 u.n) ∧ w'.cell? ⟨ba, oa + k * 4 + 3, none⟩ = some (.int .i64 u.d) ∧ g < w'.heap.size ∧ ba < w'.heap.size ∧ Hid (Below W.heap.size W w')
theorem T14.bel {g : Nat} {r : Rc} {ba oa k : Nat} {u : Pl} {W w : World} (h : T14 g r ba oa k u W w) : Below W.heap.size W w := by
  obtain ⟨a0, a1, a2, a3, a4, a5, a6, a7, l0, l1, hz⟩ := h
  exact hz.out
theorem T14.go {g : Nat} {r : Rc} {ba oa k : Nat} {u : Pl} {W w w' : World} (h : T14 g r ba oa k u W w) (hb : Below w.heap.size w w') : T14 g r ba oa k u W w' := by
  obtain ⟨a0, a1, a2, a3, a4, a5, a6, a7, l0, l1, hz⟩ := h
  have t0 := fun o => hb.cell (p := ⟨g, o, none⟩) l0
  have t1 := fun o => hb.cell (p := ⟨ba, o, none⟩) l1
  exact ⟨(t0 _).trans a0, (t0 _).trans a1, (t0 _).trans a2, (t0 _).trans a3, (t1 _).trans a4, (t1 _).trans a5, (t1 _).trans a6, (t1 _).trans a7, Nat.lt_of_lt_of_le l0 hb.size, Nat.lt_of_lt_of_le l1 hb.size, Lib.hid (hz.out.trans (hb.mono hz.out.size))⟩
theorem T14.drewN {g : Nat} {r : Rc} {ba oa k : Nat} {u : Pl} {W w : World} (h : T14 g r ba oa k u W w) (n : Nat) : T14 g r ba oa k u W (w.drewN n) := h.go (below_drewN (Below.refl _ _) n)
def T16 (g : Nat) (r : Rc) (W w' : World) : Prop := w'.cell? ⟨g, 0, none⟩ = some (.int .i64 r.X0) ∧ w'.cell? ⟨g, 1, none⟩ = some (.int .i64 r.Y0) ∧ w'.cell? ⟨g, 2, none⟩ = some (.int .i64 r.X1) ∧ w'.cell? ⟨g, 3, none⟩ = some (.int .i64 r.Y1) ∧ g < w'.heap.size ∧ Hid (Below W.heap.size W w')
theorem T16.bel {g : Nat} {r : Rc} {W w : World} (h : T16 g r W w) : Below W.heap.size W w := by
  obtain ⟨a0, a1, a2, a3, l0, hz⟩ := h
  exact hz.out
theorem T16.go {g : Nat} {r : Rc} {W w w' : World} (h : T16 g r W w) (hb : Below w.heap.size w w') : T16 g r W w' := by
  obtain ⟨a0, a1, a2, a3, l0, hz⟩ := h
  have t0 := fun o => hb.cell (p := ⟨g, o, none⟩) l0
  exact ⟨(t0 _).trans a0, (t0 _).trans a1, (t0 _).trans a2, (t0 _).trans a3, Nat.lt_of_lt_of_le l0 hb.size, Lib.hid (hz.out.trans (hb.mono hz.out.size))⟩
theorem T16.drewN {g : Nat} {r : Rc} {W w : World} (h : T16 g r W w) (n : Nat) : T16 g r W (w.drewN n) := h.go (below_drewN (Below.refl _ _) n)
set_option maxHeartbeats 40000000 in
theorem tells10_many (r : Rc) (A : Option Addr) (cap : Nat) (l : List Pl) (A2 : Option Addr) (c2 : Nat) (s : List Bx) (x y z : Int) (w : World) (hn : ¬ (l.length ≤ 12 ∧ s.length ≤ 12)) :
    Calls Tryz.prog 5 #[.agg #[.int .i64 r.X0, .int .i64 r.Y0, .int .i64 r.X1, .int .i64 r.Y1], .slice A l.length cap, .slice A2 s.length c2, .int .i64 x, .int .i64 y, .int .i64 z] w (BlIs true w) := by
  have HB : Hid (Below w.heap.size w (w.alloc (.cells #[.int .i64 r.X0, .int .i64 r.Y0, .int .i64 r.X1, .int .i64 r.Y1] 33))) := Lib.hid ((Below.refl _ _).alloc (Nat.le_refl _) _)
  have HSM := Lib.hid (fun w' => msmall_any w')
  have HFW := Lib.hid (fun w' => mfew_any A cap l A2 c2 s w')
  rw [decide_eq_false hn] at HFW
  go_enter Tryz.func5, Tryz.ntmps5
  go_wp2_with fail
  generalize World.alloc w _ = w0 at *
  refine (HSM.out _).mono ?_
  rintro e w1 ⟨rfl, hb⟩
  have HB1 := Lib.hid (HB.out.trans (hb.mono HB.out.size)); clear hb HB
  go_wp2_with fail
  refine (HFW.out _).mono ?_
  rintro e w2 ⟨rfl, hb⟩
  have HB2 := Lib.hid (HB1.out.trans (hb.mono HB1.out.size)); clear hb HB1
  go_wp2_with fail
  go_ret
  exact ⟨rfl, HB2.out⟩
set_option maxHeartbeats 40000000 in
theorem tells10_walk (r : Rc) (A : Option Addr) (cap : Nat) (l : List Pl) (A2 : Option Addr) (c2 : Nat) (s : List Bx) (x y z : Int) (w : World) (hl : PlIn w A cap l) (hn : l.length ≤ 12 ∧ s.length ≤ 12) (hb : BxRow w A2 s) :
    Calls Tryz.prog 5 #[.agg #[.int .i64 r.X0, .int .i64 r.Y0, .int .i64 r.X1, .int .i64 r.Y1], .slice A l.length cap, .slice A2 s.length c2, .int .i64 x, .int .i64 y, .int .i64 z] w (BlIs true w) := by
  have K := Lib.hid (LK.start (r := r) hl)
  have HSM := Lib.hid (fun w' => msmall_any w')
  have HFW := Lib.hid (fun w' => mfew_any A cap l A2 c2 s w')
  rw [decide_eq_true hn] at HFW
  obtain ⟨S, er, hof⟩ : ∃ S er, ofS s = (S, er) := ⟨_, _, rfl⟩
  have HOF := Lib.hid (fun w' (h : Below w.heap.size w w') => show Calls Tryz.prog 9 #[.slice A2 s.length c2] w' (OfE S S.length er w') from by
    have h1 := bof_any A2 c2 s w' (hb.below h) (by omega)
    rw [hof] at h1; exact h1)
  obtain ⟨ab, hab⟩ : ∃ b : Bool, (b = true ↔ (ArgOk r l ∧ SolP S) ∧ AllB r l S) := by
    by_cases h : (ArgOk r l ∧ SolP S) ∧ AllB r l S
    · exact ⟨true, fun _ => h, fun _ => rfl⟩
    · exact ⟨false, fun e => (by cases e), fun e => absurd e h⟩
  have HF1 := Lib.hid (fun w' (h : Below w.heap.size w w') A3 c3 (hs : SIn w' A3 c3 S) => show Calls Tryz.prog 14 #[.agg #[.int .i64 r.X0, .int .i64 r.Y0, .int .i64 r.X1, .int .i64 r.Y1], .slice A l.length cap, .slice A3 S.length c3] w' (FIs r l S w') from kFirst_any r A cap l A3 c3 S w' (hl.below h) hs)
  have HF2 := Lib.hid (fun w' (h : Below w.heap.size w w') A3 c3 (hs : SIn w' A3 c3 S) => show Calls Tryz.prog 15 #[.agg #[.int .i64 r.X0, .int .i64 r.Y0, .int .i64 r.X1, .int .i64 r.Y1], .slice A l.length cap, .slice A3 S.length c3] w' (FIs r l S w') from nFirst_any r A cap l A3 c3 S w' (hl.below h) hs)
  have HA1 := Lib.hid (fun w' (h : Below w.heap.size w w') A3 c3 (hs : SIn w' A3 c3 S) => show Calls Tryz.prog 19 #[.agg #[.int .i64 r.X0, .int .i64 r.Y0, .int .i64 r.X1, .int .i64 r.Y1], .slice A l.length cap, .slice A3 S.length c3] w' (BlIs ab w') from (kAllows_any r A cap l A3 c3 S w' (hl.below h) hs).mono fun e w2 k => AlIs.is hab k)
  have HA2 := Lib.hid (fun w' (h : Below w.heap.size w w') A3 c3 (hs : SIn w' A3 c3 S) => show Calls Tryz.prog 20 #[.agg #[.int .i64 r.X0, .int .i64 r.Y0, .int .i64 r.X1, .int .i64 r.Y1], .slice A l.length cap, .slice A3 S.length c3] w' (BlIs ab w') from (nAllows_any r A cap l A3 c3 S w' (hl.below h) hs).mono fun e w2 k => AlIs.is hab k)
  have hR1 : (RoomIs r l z).1.length ≤ 1 := by
    have := room_len r l z
    unfold RoomIs; split
    · split
      · exact this
      · simp
    · simp
  obtain ⟨R, re, hR⟩ : ∃ R re, RoomIs r l z = (R, re) := ⟨_, _, rfl⟩
  rw [hR] at hR1
  have hR2 : R.length ≤ 1099511627776 := Nat.le_trans hR1 (by decide)
  have HR1 := Lib.hid (fun w' (h : Below w.heap.size w w') => show Calls Tryz.prog 16 #[.agg #[.int .i64 r.X0, .int .i64 r.Y0, .int .i64 r.X1, .int .i64 r.Y1], .slice A l.length cap, .int .i64 z] w' (RmF R R.length re w') from by
    have h1 := kRoom_any r A cap l z w' (hl.below h)
    rw [hR] at h1; exact h1)
  have HR2 := Lib.hid (fun w' (h : Below w.heap.size w w') => show Calls Tryz.prog 17 #[.agg #[.int .i64 r.X0, .int .i64 r.Y0, .int .i64 r.X1, .int .i64 r.Y1], .slice A l.length cap, .int .i64 z] w' (RmF R R.length re w') from by
    have h1 := nRoom_any r A cap l z w' (hl.below h)
    rw [hR] at h1; exact h1)
  have HSA := Lib.hid (fun w' A4 A5 (h4 : RRow w' A4 R) (h5 : RRow w' A5 R) => show Calls Tryz.prog 18 #[.slice A4 R.length R.length, .slice A5 R.length R.length] w' (BlIs true w') from by
    have h1 := vsame_any A4 R.length A5 R.length R R w' h4 h5 hR2 hR2
    rw [decide_eq_true rfl] at h1; exact h1)
  have HK1 := Lib.hid (fun u w' => kright_any u w')
  have HK2 := Lib.hid (fun u w' => nright_any u w')
  have HD1 := Lib.hid (fun t w' => kDist_any r t x y w')
  have HD2 := Lib.hid (fun t w' => nDist_any r t x y w')
  have HT1 := Lib.hid (fun w' (h : Below w.heap.size w w') => kTop_any r A cap l x y w' (hl.below h))
  have HT2 := Lib.hid (fun w' (h : Below w.heap.size w w') => nTop_any r A cap l x y w' (hl.below h))
  generalize TopIs r l x y = tp at *
  clear hn hb hab hof hR hR1 hR2 hl
  generalize hnS : S.length = nS at *
  generalize hnR : R.length = nR at *
  clear hnS hnR
  go_enter Tryz.func5, Tryz.ntmps5
  go_wp2_with fail
  generalize World.alloc w _ = w0 at *
  refine (HSM.out _).mono ?_
  rintro e w1 ⟨rfl, hb⟩
  replace K := Lib.hid (K.out.go hb)
  clear hb HSM
  go_wp2_with fail
  refine (HFW.out _).mono ?_
  rintro e w2 ⟨rfl, hb⟩
  replace K := Lib.hid (K.out.go hb)
  clear hb HFW
  go_wp2_with fail
  refine (HOF.out _ K.out.b).mono ?_
  rintro e w4 ⟨A3, c3, rfl, hs3, hb⟩
  replace K := Lib.hid (K.out.go hb)
  have HS3 := Lib.hid hs3
  clear hs3 hb HOF
  --A
  have x0 := K.out.r.cell0; have x1 := K.out.r.cell1; have x2 := K.out.r.cell2; have x3 := K.out.r.cell3; have xl := K.out.r.lt
  go_wp2_with fail
  refine (HF1.out _ K.out.b _ _ HS3.out).mono ?_
  rintro e w5 ⟨⟨p, is⟩, rfl, hx, hb⟩
  have HX := Lib.hid hx
  replace K := Lib.hid (K.out.go hb)
  replace HS3 := Lib.hid (HS3.out.below hb)
  clear x0 x1 x2 x3 xl hb hx HF1
  have ba1 := (Below.refl w5.heap.size w5).alloc (Nat.le_refl _) (.cells #[.int .i64 p.x, .int .i64 p.y, .int .i64 p.z] 37)
  replace K := Lib.hid (K.out.go ba1)
  replace HS3 := Lib.hid (HS3.out.below ba1)
  have HP : Hid (P3At (w5.alloc (.cells #[.int .i64 p.x, .int .i64 p.y, .int .i64 p.z] 37)) w5.heap.size p) := Lib.hid (P3At.new w5 p _ rfl)
  clear ba1
  have x0 := K.out.r.cell0; have x1 := K.out.r.cell1; have x2 := K.out.r.cell2; have x3 := K.out.r.cell3; have xl := K.out.r.lt
  go_wp2_with fail
  generalize World.alloc w5 _ = wp at *
  generalize w5.heap.size = g1 at *
  --B
  refine (HF2.out _ K.out.b _ _ HS3.out).mono ?_
  rintro e w6 ⟨⟨p2, is2⟩, rfl, hx, hb⟩
  have hpp := HX.out.eq hx
  obtain ⟨rfl, rfl⟩ := Prod.mk.inj hpp
  replace K := Lib.hid (K.out.go hb)
  replace HS3 := Lib.hid (HS3.out.below hb)
  replace HP := Lib.hid (HP.out.below hb)
  clear x0 x1 x2 x3 xl hb hx HX hpp HF2
  have ba1 := (Below.refl w6.heap.size w6).alloc (Nat.le_refl _) (.cells #[.int .i64 p.x, .int .i64 p.y, .int .i64 p.z] 37)
  replace K := Lib.hid (K.out.go ba1)
  replace HS3 := Lib.hid (HS3.out.below ba1)
  replace HP := Lib.hid (HP.out.below ba1)
  have HQ : Hid (P3At (w6.alloc (.cells #[.int .i64 p.x, .int .i64 p.y, .int .i64 p.z] 37)) w6.heap.size p) := Lib.hid (P3At.new w6 p _ rfl)
  clear ba1
  have x0 := K.out.r.cell0; have x1 := K.out.r.cell1; have x2 := K.out.r.cell2; have x3 := K.out.r.cell3; have xl := K.out.r.lt
  go_wp2_with fail
  generalize World.alloc w6 _ = wq at *
  generalize w6.heap.size = g2 at *
  refine (HR1.out _ K.out.b).mono ?_
  rintro e w7 ⟨A4, rfl, hr4, hb⟩
  replace K := Lib.hid (K.out.go hb)
  replace HS3 := Lib.hid (HS3.out.below hb)
  replace HP := Lib.hid (HP.out.below hb)
  replace HQ := Lib.hid (HQ.out.below hb)
  have HR4 := Lib.hid hr4
  clear x0 x1 x2 x3 xl hb hr4 HR1
  have x0 := K.out.r.cell0; have x1 := K.out.r.cell1; have x2 := K.out.r.cell2; have x3 := K.out.r.cell3; have xl := K.out.r.lt
  go_wp2_with fail
  refine (HR2.out _ K.out.b).mono ?_
  rintro e w8 ⟨A5, rfl, hr5, hb⟩
  replace K := Lib.hid (K.out.go hb)
  replace HS3 := Lib.hid (HS3.out.below hb)
  replace HP := Lib.hid (HP.out.below hb)
  replace HQ := Lib.hid (HQ.out.below hb)
  replace HR4 := Lib.hid (HR4.out.below hb)
  have HR5 := Lib.hid hr5
  clear x0 x1 x2 x3 xl hb hr5 HR2
  go_upto_region 9 with fail
  --C
  have E : Hid (T10 w.heap.size g1 g2 r p w8 w8) := Lib.hid ⟨K.out.r.cell0, K.out.r.cell1, K.out.r.cell2, K.out.r.cell3, HP.out.c0, HP.out.c1, HP.out.c2, HQ.out.c0, HQ.out.c1, HQ.out.c2, K.out.r.lt, HP.out.lt, HQ.out.lt, Lib.hid (Below.refl _ _)⟩
  have G1 := Lib.hid (fun w' (h : T10 w.heap.size g1 g2 r p w8 w') => HSA.out w' A4 A5 (HR4.out.below h.bel) (HR5.out.below h.bel))
  have G2 := Lib.hid (fun w' (h : T10 w.heap.size g1 g2 r p w8 w') => HA1.out w' (K.out.b.trans (h.bel.mono K.out.b.size)) A3 c3 (HS3.out.below h.bel))
  have G3 := Lib.hid (fun w' (h : T10 w.heap.size g1 g2 r p w8 w') => HA2.out w' (K.out.b.trans (h.bel.mono K.out.b.size)) A3 c3 (HS3.out.below h.bel))
  clear HSA HA1 HA2 HR4 HR5 HS3 HP HQ
  obtain ⟨x0, x1, x2, x3, y0, y1, y2, z0, z1, z2, l0, l1, l2, _⟩ := E.out
  have e0 : (p.x == p.x) = true := by simp
  have e1 : (p.y == p.y) = true := by simp
  have e2 : (p.z == p.z) = true := by simp
  have e3 : (is == is) = true := by simp
  have e4 : (re == re) = true := by simp
  have e5 : (ab == ab) = true := by simp
  go_region_held3 (fun w' => w'.cell? ⟨w.heap.size, 0, none⟩ = some (.int .i64 r.X0) ∧ w'.cell? ⟨w.heap.size, 1, none⟩ = some (.int .i64 r.Y0) ∧ w'.cell? ⟨w.heap.size, 2, none⟩ = some (.int .i64 r.X1) ∧ w'.cell? ⟨w.heap.size, 3, none⟩ = some (.int .i64 r.Y1) ∧ w'.cell? ⟨g1, 0, none⟩ = some (.int .i64 p.x) ∧ w'.cell? ⟨g1, 1, none⟩ = some (.int .i64 p.y) ∧ w'.cell? ⟨g1, 2, none⟩ = some (.int .i64 p.z) ∧ w'.cell? ⟨g2, 0, none⟩ = some (.int .i64 p.x) ∧ w'.cell? ⟨g2, 1, none⟩ = some (.int .i64 p.y) ∧ w'.cell? ⟨g2, 2, none⟩ = some (.int .i64 p.z) ∧ w.heap.size < w'.heap.size ∧ g1 < w'.heap.size ∧ g2 < w'.heap.size ∧ Hid (Below w8.heap.size w8 w'))
    (first | exact E.out | exact T10.drewN E.out 1 | exact T10.go ‹_› ‹_› | assumption)
    (first
      | (go_at_call 18; refine (G1.out _ ?_).mono ?_; (first | assumption | exact T10.drewN E.out 1); rintro e w31 ⟨rfl, hb⟩)
      | (go_at_call 19; refine (G2.out _ ?_).mono ?_; (first | assumption | exact T10.drewN E.out 1); rintro e w32 ⟨rfl, hb⟩)
      | (go_at_call 20; refine (G3.out _ ?_).mono ?_; (first | assumption | exact T10.drewN E.out 1); rintro e w33 ⟨rfl, hb⟩)
      | fail)
  --D
  go_wp2_with fail
  have hbel : Below w8.heap.size w8 w33 := T10.bel (g := w.heap.size) (g1 := g1) (g2 := g2) (r := r) (p := p) (by assumption)
  have K9 := Lib.hid (K.out.go hbel)
  clear K E G1 G2 G3 x0 x1 x2 x3 y0 y1 y2 z0 z1 z2 l0 l1 l2 e0 e1 e2 e3 e4 e5 hbel
  go_loopw [24] (fun i wr => ∃ (k : Nat), k ≤ l.length ∧ i = .int .i64 k ∧ Hid (LK r A cap l w wr)) (fun i _ => l.length - (intOf i).toNat)
  case atStart => exact ⟨0, Nat.zero_le _, rfl, K9⟩
  case round =>
    clear K9
    obtain ⟨k, hk, rfl, K⟩ := hrel
    by_cases hlt : k < l.length
    · clear HT1 HT2
      obtain ⟨ba, oa, rfl, hba, hva⟩ := K.out.p.row (by omega)
      obtain ⟨y0, y1, y2, y3⟩ := hva k hlt
      obtain ⟨u, hu⟩ : ∃ u, u = l[k] := ⟨_, rfl⟩
      rw [← hu] at y0 y1 y2 y3
      clear hu hva
      have n0 : (0 : Int) ≤ (k : Int) := by omega
      have n1 : (k : Int) < (l.length : Int) := by omega
      have hlen := K.out.p.len
      have J1 := Lib.hid (fun w' => HK1.out u w'); have J2 := Lib.hid (fun w' => HK2.out u w')
      have J3 := Lib.hid (fun w' => HD1.out u.s w'); have J4 := Lib.hid (fun w' => HD2.out u.s w')
      clear HK1 HK2 HD1 HD2
      generalize plokB u = pb at *
      generalize DistIs r u.s x y = dd at *
      have e0 : (pb == pb) = true := by simp
      have e1 : (dd == dd) = true := by simp
      have E : Hid (T14 w.heap.size r ba oa k u wr wr) := Lib.hid ⟨K.out.r.cell0, K.out.r.cell1, K.out.r.cell2, K.out.r.cell3, y0, y1, y2, y3, K.out.r.lt, hba, Lib.hid (Below.refl _ _)⟩
      have x0 := K.out.r.cell0; have x1 := K.out.r.cell1; have x2 := K.out.r.cell2; have x3 := K.out.r.cell3; have xl := K.out.r.lt
      go_upto_region 14 with fail
      --F
      go_region_held3 (fun w' => w'.cell? ⟨w.heap.size, 0, none⟩ = some (.int .i64 r.X0) ∧ w'.cell? ⟨w.heap.size, 1, none⟩ = some (.int .i64 r.Y0) ∧ w'.cell? ⟨w.heap.size, 2, none⟩ = some (.int .i64 r.X1) ∧ w'.cell? ⟨w.heap.size, 3, none⟩ = some (.int .i64 r.Y1) ∧ w'.cell? ⟨ba, oa + k * 4, none⟩ = some (.int .i64 u.s) ∧ w'.cell? ⟨ba, oa + k * 4 + 1, none⟩ = some (.int .i64 u.b) ∧ w'.cell? ⟨ba, oa + k * 4 + 2, none⟩ = some (.int .i64 u.n) ∧ w'.cell? ⟨ba, oa + k * 4 + 3, none⟩ = some (.int .i64 u.d) ∧ w.heap.size < w'.heap.size ∧ ba < w'.heap.size ∧ Hid (Below wr.heap.size wr w'))
        (first | exact E.out | exact T14.drewN E.out 1 | exact T14.go ‹_› ‹_› | assumption)
        (first
          | (go_at_call 21; refine (J1.out _).mono ?_; rintro e w41 ⟨rfl, hb⟩)
          | (go_at_call 22; refine (J2.out _).mono ?_; rintro e w42 ⟨rfl, hb⟩)
          | (go_at_call 23; refine (J3.out _).mono ?_; rintro e w43 ⟨rfl, hb⟩)
          | (go_at_call 24; refine (J4.out _).mono ?_; rintro e w44 ⟨rfl, hb⟩)
          | fail)
      --G
      go_wp2_with fail
      go_roundw
      case rel => exact ⟨k + 1, by omega, by go_num, Lib.hid (K.out.go (T14.bel (g := w.heap.size) (r := r) (ba := ba) (oa := oa) (k := k) (u := u) (by assumption)))⟩
      case measure => simp [intOf]; omega
    · obtain rfl : k = l.length := by omega
      have J1 := Lib.hid (fun w' (h : T16 w.heap.size r wr w') => HT1.out w' (K.out.b.trans (h.bel.mono K.out.b.size)))
      have J2 := Lib.hid (fun w' (h : T16 w.heap.size r wr w') => HT2.out w' (K.out.b.trans (h.bel.mono K.out.b.size)))
      clear HT1 HT2 HK1 HK2 HD1 HD2
      have E : Hid (T16 w.heap.size r wr wr) := Lib.hid ⟨K.out.r.cell0, K.out.r.cell1, K.out.r.cell2, K.out.r.cell3, K.out.r.lt, Lib.hid (Below.refl _ _)⟩
      have x0 := K.out.r.cell0; have x1 := K.out.r.cell1; have x2 := K.out.r.cell2; have x3 := K.out.r.cell3; have xl := K.out.r.lt
      have e0 : (tp == tp) = true := by simp
      go_upto_region 16 with fail
      --H
      go_region_held3 (fun w' => w'.cell? ⟨w.heap.size, 0, none⟩ = some (.int .i64 r.X0) ∧ w'.cell? ⟨w.heap.size, 1, none⟩ = some (.int .i64 r.Y0) ∧ w'.cell? ⟨w.heap.size, 2, none⟩ = some (.int .i64 r.X1) ∧ w'.cell? ⟨w.heap.size, 3, none⟩ = some (.int .i64 r.Y1) ∧ w.heap.size < w'.heap.size ∧ Hid (Below wr.heap.size wr w'))
        (first | exact E.out | exact T16.drewN E.out 1 | exact T16.go ‹_› ‹_› | assumption)
        (first
          | (go_at_call 25; refine (J1.out _ ?_).mono ?_; (first | assumption | exact T16.drewN E.out 1); rintro e w51 ⟨rfl, hb⟩)
          | (go_at_call 26; refine (J2.out _ ?_).mono ?_; (first | assumption | exact T16.drewN E.out 1); rintro e w52 ⟨rfl, hb⟩)
          | fail)
      --I
      go_wp2_with fail
      go_ret
      exact ⟨rfl, (K.out.go (T16.bel (g := w.heap.size) (r := r) (by assumption))).b⟩
theorem tells10_any (r : Rc) (A : Option Addr) (cap : Nat) (l : List Pl) (A2 : Option Addr) (c2 : Nat) (s : List Bx) (x y z : Int) (w : World) (hl : PlRow w A l) (hc : l.length ≤ cap) (hs : cap ≤ 9223372036854775807) (hb : BxRow w A2 s) :
    Calls Tryz.prog 5 #[.agg #[.int .i64 r.X0, .int .i64 r.Y0, .int .i64 r.X1, .int .i64 r.Y1], .slice A l.length cap, .slice A2 s.length c2, .int .i64 x, .int .i64 y, .int .i64 z] w (BlIs true w) := by
  by_cases hn : l.length ≤ 12 ∧ s.length ≤ 12
  · exact tells10_walk r A cap l A2 c2 s x y z w ⟨hl, by omega, hc, hs⟩ hn hb
  · exact tells10_many r A cap l A2 c2 s x y z w hn
end Go.Proofs.YtkjblmfmaenllaaGreat
