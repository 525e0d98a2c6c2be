/-
  RegionTells: the walk of same, and of the law.
-/
import Derived.Test.YtcnojedijimheaaXd
import Derived.Test.YtcnojedijimheaaXh
import Derived.Test.YtcnojedijimheaaXi
import Derived.Test.YtcnojedijimheaaXk
import Derived.Test.YtcnojedijimheaaIi
import Derived.Test.YtcnojedijimheaaHv
import Derived.Deep.RegionHeld3
set_option linter.unusedVariables false
set_option maxRecDepth 100000
namespace Go.Proofs.Ytcnojedijimheaa
open Go.RowKit

theorem gright_dec (A : Option Addr) (cap : Nat) (l : List Rc) (w : World) (h : RIn w A cap l) : Calls Try.prog 33 #[.slice A l.length cap] w (BlIs (decide (RegP l)) w) := by
  by_cases hr : RegP l
  · rw [decide_eq_true hr]; exact gright_yes A cap l w h.row h.len h.room h.room2 hr
  · rw [decide_eq_false hr]; exact gright_no A cap l w h.row h.len h.room h.room2 hr
theorem vsame_rin' (A1 : Option Addr) (c1 : Nat) (A2 : Option Addr) (c2 : Nat) (l m : List Rc) (w : World) (h1 : RIn w A1 c1 l) (h2 : RIn w A2 c2 m) : Calls Try.prog 13 #[.slice A1 l.length c1, .slice A2 m.length c2] w (BlIs (decide (l = m)) w) := vsame_any A1 c1 A2 c2 l m w h1.row h2.row h1.len h2.len
noncomputable def partsG (a : List Rc) : List (List Rc) := if RegP a then partsR a else []
theorem vparts_all (A : Option Addr) (cap : Nat) (a : List Rc) (w : World) (h : RIn w A cap a) : Calls Try.prog 47 #[.slice A a.length cap] w (PartsRes (partsG a) w) := by
  by_cases hr : RegP a
  · rw [show partsG a = partsR a from if_pos hr]; exact vparts_yes A cap a w h hr
  · rw [show partsG a = [] from if_neg hr]
    have RA := Lib.hid (vRight_no A cap a w h.row h.len hr)
    clear h hr
    go_enter Try.func47, Try.ntmps47
    go_wp2_with fail
    refine RA.out.mono ?_
    rintro e1 w1 ⟨rfl, hb1⟩
    have HB1 := Lib.hid hb1; clear hb1 RA
    go_wp2_with fail
    go_ret
    exact ⟨_, [], rfl, World.ownsRow_nil _ _ _ _, fun j hj => absurd hj (Nat.not_lt_zero _), HB1.out⟩
theorem gparts_all (A : Option Addr) (cap : Nat) (a : List Rc) (w : World) (h : RIn w A cap a) : Calls Try.prog 31 #[.slice A a.length cap] w (PartsRes (partsG a) w) := by
  by_cases hr : RegP a
  · rw [show partsG a = partsR a from if_pos hr]; exact gparts_any A cap a w h hr
  · rw [show partsG a = [] from if_neg hr]
    have RA := Lib.hid (gright_no A cap a w h.row h.len h.room h.room2 hr)
    clear h hr
    go_enter Try.func31, Try.ntmps31
    go_wp2_with fail
    refine RA.out.mono ?_
    rintro e1 w1 ⟨rfl, hb1⟩
    have HB1 := Lib.hid hb1; clear hb1 RA
    go_wp2_with fail
    go_ret
    exact ⟨_, [], rfl, World.ownsRow_nil _ _ _ _, fun j hj => absurd hj (Nat.not_lt_zero _), HB1.out⟩
/-- a list of lists that can be read. -/
def LsRow (w : World) (A : Option Addr) (LL : List (List Rc)) : Prop := 0 < LL.length → ∃ b off, A = some ⟨b, off, none⟩ ∧ b < w.heap.size ∧ ∀ j (h : j < LL.length), ∃ Aj cj, w.cell? ⟨b, off + j, none⟩ = some (.slice Aj LL[j].length cj) ∧ RIn w Aj cj LL[j]
theorem LsRow.below {w w' : World} {A : Option Addr} {LL : List (List Rc)} (h : LsRow w A LL) (hb : Below w.heap.size w w') : LsRow w' A LL := fun h0 => by
  obtain ⟨b, off, rfl, hl, hc⟩ := h h0
  refine ⟨b, off, rfl, Nat.lt_of_lt_of_le hl hb.size, fun j hj => ?_⟩
  obtain ⟨Aj, cj, q1, q2⟩ := hc j hj
  exact ⟨Aj, cj, (hb.cell (p := ⟨b, off + j, none⟩) hl).trans q1, q2.below hb⟩
def LsIs (LL : List (List Rc)) (n : Nat) (w : World) (e : Ending) (w' : World) : Prop := ∃ A c, e = .returned (.slice A n c) ∧ LsRow w' A LL ∧ Below w.heap.size w w'
theorem PartsRes.ls {LL : List (List Rc)} {w : World} {e : Ending} {w' : World} (h : PartsRes LL w e w') (hl : ∀ p ∈ LL, p.length ≤ 1099511627776) : LsIs LL LL.length w e w' := by
  obtain ⟨vp, Vs, rfl, hown, hrows, hb⟩ := h
  obtain ⟨Ap, cp, rfl, hap⟩ := own_parts hown
  refine ⟨Ap, cp, rfl, fun h0 => ?_, hb⟩
  obtain ⟨g, rfl, hg, hvc⟩ := hap h0
  refine ⟨g, 0, rfl, hg, fun j hj => ?_⟩
  obtain ⟨v, h1, h2⟩ := hrows j hj
  obtain ⟨A', c', rfl, r1, r2, r3, _⟩ := own_rects h2
  exact ⟨A', c', by rw [Nat.zero_add, hvc j (by omega)]; exact h1, r1, hl _ (List.getElem_mem hj), r2, r3⟩
theorem capR_len1 (l : List Rc) : (capR l).1.length ≤ 200 := by
  unfold capR
  split
  · assumption
  · exact Nat.zero_le _
theorem ofR_len1 (l : List Rc) : (ofR l).1.length ≤ 200 := by
  unfold ofR
  split
  · split
    · exact capR_len1 _
    · exact Nat.zero_le _
  · exact Nat.zero_le _
theorem opR_len1 (op : Bool → Bool → Bool) (a b : List Rc) : (opR op a b).1.length ≤ 200 := by
  unfold opR
  split
  · exact capR_len1 _
  · exact Nat.zero_le _
theorem shiftG_len1 (a : List Rc) (dx dy : Int) : (shiftG a dx dy).1.length ≤ a.length := by
  unfold shiftG
  split
  · split <;> simp
  · exact Nat.zero_le _
theorem partsG_len1 (a : List Rc) : ∀ p ∈ partsG a, p.length ≤ 200 := by
  unfold partsG partsR partsL
  split
  · intro p hp
    obtain ⟨q, _, rfl⟩ := List.mem_map.1 hp
    exact ofR_len1 q
  · intro p hp; cases hp
/-- what a round of same's loop reads. -/
def G2 (b1 p b2 q : Nat) (u v : Value) (w0 w : World) : Prop := w.cell? ⟨b1, p, none⟩ = some u ∧ w.cell? ⟨b2, q, none⟩ = some v ∧ b1 < w.heap.size ∧ b2 < w.heap.size ∧ Hid (Below w0.heap.size w0 w)
theorem G2.go {b1 p b2 q : Nat} {u v : Value} {w0 w w' : World} (h : G2 b1 p b2 q u v w0 w) (hb : Below w.heap.size w w') : G2 b1 p b2 q u v w0 w' := by
  obtain ⟨x, y, l1, l2, hB⟩ := h
  exact ⟨(hb.cell (p := ⟨b1, p, none⟩) l1).trans x, (hb.cell (p := ⟨b2, q, none⟩) l2).trans y, Nat.lt_of_lt_of_le l1 hb.size, Nat.lt_of_lt_of_le l2 hb.size, Lib.hid (hB.out.trans (hb.mono hB.out.size))⟩
theorem G2.drewN {b1 p b2 q : Nat} {u v : Value} {w0 w : World} (h : G2 b1 p b2 q u v w0 w) (n : Nat) : G2 b1 p b2 q u v w0 (w.drewN n) := h.go (below_drewN (Below.refl _ _) n)
set_option maxHeartbeats 40000000 in
theorem same_core (A : Option Addr) (c : Nat) (A2 : Option Addr) (c2 : Nat) (a b : List Rc) (x y : Int) (X1 X2 X3 X4 : List Rc) (e1 e2 e3 e4 : Int) (B : Rc) (bb : Bool) (LL : List (List Rc)) (r : Bool) (ar : Int) (hs sm : Bool) (w : World) (hLL : LL.length ≤ 200)
    (hU : ∀ w', Below w.heap.size w w' → Calls Try.prog 38 #[.slice A a.length c, .slice A2 b.length c2] w' (RR X1 X1.length e1 w'))
    (hU2 : ∀ w', Below w.heap.size w w' → Calls Try.prog 39 #[.slice A a.length c, .slice A2 b.length c2] w' (RR X1 X1.length e1 w'))
    (hC : ∀ w', Below w.heap.size w w' → Calls Try.prog 40 #[.slice A a.length c, .slice A2 b.length c2] w' (RR X2 X2.length e2 w'))
    (hC2 : ∀ w', Below w.heap.size w w' → Calls Try.prog 41 #[.slice A a.length c, .slice A2 b.length c2] w' (RR X2 X2.length e2 w'))
    (hM : ∀ w', Below w.heap.size w w' → Calls Try.prog 30 #[.slice A a.length c, .slice A2 b.length c2] w' (RR X3 X3.length e3 w'))
    (hM2 : ∀ w', Below w.heap.size w w' → Calls Try.prog 42 #[.slice A a.length c, .slice A2 b.length c2] w' (RR X3 X3.length e3 w'))
    (hS : ∀ w', Below w.heap.size w w' → Calls Try.prog 43 #[.slice A a.length c, .int .i64 x, .int .i64 y] w' (RR X4 X4.length e4 w'))
    (hS2 : ∀ w', Below w.heap.size w w' → Calls Try.prog 44 #[.slice A a.length c, .int .i64 x, .int .i64 y] w' (RR X4 X4.length e4 w'))
    (hB : ∀ w', Below w.heap.size w w' → Calls Try.prog 45 #[.slice A a.length c] w' (RbIs (B, bb) w'))
    (hB2 : ∀ w', Below w.heap.size w w' → Calls Try.prog 46 #[.slice A a.length c] w' (RbIs (B, bb) w'))
    (hP : ∀ w', Below w.heap.size w w' → Calls Try.prog 31 #[.slice A a.length c] w' (LsIs LL LL.length w'))
    (hP2 : ∀ w', Below w.heap.size w w' → Calls Try.prog 47 #[.slice A a.length c] w' (LsIs LL LL.length w'))
    (hR : ∀ w', Below w.heap.size w w' → Calls Try.prog 33 #[.slice A a.length c] w' (BlIs r w'))
    (hR2 : ∀ w', Below w.heap.size w w' → Calls Try.prog 26 #[.slice A a.length c] w' (BlIs r w'))
    (hA : ∀ w', Below w.heap.size w w' → Calls Try.prog 32 #[.slice A a.length c] w' (InIs ar w'))
    (hA2 : ∀ w', Below w.heap.size w w' → Calls Try.prog 48 #[.slice A a.length c] w' (InIs ar w'))
    (hH : ∀ w', Below w.heap.size w w' → Calls Try.prog 49 #[.slice A a.length c, .int .i64 x, .int .i64 y] w' (BlIs hs w'))
    (hH2 : ∀ w', Below w.heap.size w w' → Calls Try.prog 27 #[.slice A a.length c, .int .i64 x, .int .i64 y] w' (BlIs hs w'))
    (hE : ∀ w', Below w.heap.size w w' → Calls Try.prog 50 #[.slice A a.length c, .slice A2 b.length c2] w' (BlIs sm w'))
    (hE2 : ∀ w', Below w.heap.size w w' → Calls Try.prog 13 #[.slice A a.length c, .slice A2 b.length c2] w' (BlIs sm w')) :
    Calls Try.prog 14 #[.slice A a.length c, .slice A2 b.length c2, .int .i64 x, .int .i64 y] w (BlIs true w) := by
  have HB0 : Hid (Below w.heap.size w w) := Lib.hid (Below.refl _ _)
  have KhU := Lib.hid hU
  have KhU2 := Lib.hid hU2
  have KhC := Lib.hid hC
  have KhC2 := Lib.hid hC2
  have KhM := Lib.hid hM
  have KhM2 := Lib.hid hM2
  have KhS := Lib.hid hS
  have KhS2 := Lib.hid hS2
  have KhB := Lib.hid hB
  have KhB2 := Lib.hid hB2
  have KhP := Lib.hid hP
  have KhP2 := Lib.hid hP2
  have KhR := Lib.hid hR
  have KhR2 := Lib.hid hR2
  have KhA := Lib.hid hA
  have KhA2 := Lib.hid hA2
  have KhH := Lib.hid hH
  have KhH2 := Lib.hid hH2
  have KhE := Lib.hid hE
  have KhE2 := Lib.hid hE2
  have HLL := Lib.hid hLL
  clear hU hU2 hC hC2 hM hM2 hS hS2 hB hB2 hP hP2 hR hR2 hA hA2 hH hH2 hE hE2 hLL
  go_enter Try.func14, Try.ntmps14
  go_wp2_with fail
  refine (KhU.out _ HB0.out).mono ?_
  rintro q w1 ⟨A11, c11, rfl, h, hb⟩
  have HB1 := Lib.hid (HB0.out.trans (hb.mono HB0.out.size))
  have R11 := Lib.hid h
  clear h hb HB0
  go_wp2_with fail
  refine (KhU2.out _ HB1.out).mono ?_
  rintro q w2 ⟨A12, c12, rfl, h, hb⟩
  have HB2 := Lib.hid (HB1.out.trans (hb.mono HB1.out.size))
  have R11 := Lib.hid (R11.out.below hb)
  have R12 := Lib.hid h
  clear h hb HB1
  go_wp2_with fail
  refine (KhC.out _ HB2.out).mono ?_
  rintro q w3 ⟨A13, c13, rfl, h, hb⟩
  have HB3 := Lib.hid (HB2.out.trans (hb.mono HB2.out.size))
  have R11 := Lib.hid (R11.out.below hb)
  have R12 := Lib.hid (R12.out.below hb)
  have R13 := Lib.hid h
  clear h hb HB2
  go_wp2_with fail
  refine (KhC2.out _ HB3.out).mono ?_
  rintro q w4 ⟨A14, c14, rfl, h, hb⟩
  have HB4 := Lib.hid (HB3.out.trans (hb.mono HB3.out.size))
  have R11 := Lib.hid (R11.out.below hb)
  have R12 := Lib.hid (R12.out.below hb)
  have R13 := Lib.hid (R13.out.below hb)
  have R14 := Lib.hid h
  clear h hb HB3
  go_wp2_with fail
  refine (KhM.out _ HB4.out).mono ?_
  rintro q w5 ⟨A15, c15, rfl, h, hb⟩
  have HB5 := Lib.hid (HB4.out.trans (hb.mono HB4.out.size))
  have R11 := Lib.hid (R11.out.below hb)
  have R12 := Lib.hid (R12.out.below hb)
  have R13 := Lib.hid (R13.out.below hb)
  have R14 := Lib.hid (R14.out.below hb)
  have R15 := Lib.hid h
  clear h hb HB4
  go_wp2_with fail
  refine (KhM2.out _ HB5.out).mono ?_
  rintro q w6 ⟨A16, c16, rfl, h, hb⟩
  have HB6 := Lib.hid (HB5.out.trans (hb.mono HB5.out.size))
  have R11 := Lib.hid (R11.out.below hb)
  have R12 := Lib.hid (R12.out.below hb)
  have R13 := Lib.hid (R13.out.below hb)
  have R14 := Lib.hid (R14.out.below hb)
  have R15 := Lib.hid (R15.out.below hb)
  have R16 := Lib.hid h
  clear h hb HB5
  go_wp2_with fail
  refine (KhS.out _ HB6.out).mono ?_
  rintro q w7 ⟨A17, c17, rfl, h, hb⟩
  have HB7 := Lib.hid (HB6.out.trans (hb.mono HB6.out.size))
  have R11 := Lib.hid (R11.out.below hb)
  have R12 := Lib.hid (R12.out.below hb)
  have R13 := Lib.hid (R13.out.below hb)
  have R14 := Lib.hid (R14.out.below hb)
  have R15 := Lib.hid (R15.out.below hb)
  have R16 := Lib.hid (R16.out.below hb)
  have R17 := Lib.hid h
  clear h hb HB6
  go_wp2_with fail
  refine (KhS2.out _ HB7.out).mono ?_
  rintro q w8 ⟨A18, c18, rfl, h, hb⟩
  have HB8 := Lib.hid (HB7.out.trans (hb.mono HB7.out.size))
  have R11 := Lib.hid (R11.out.below hb)
  have R12 := Lib.hid (R12.out.below hb)
  have R13 := Lib.hid (R13.out.below hb)
  have R14 := Lib.hid (R14.out.below hb)
  have R15 := Lib.hid (R15.out.below hb)
  have R16 := Lib.hid (R16.out.below hb)
  have R17 := Lib.hid (R17.out.below hb)
  have R18 := Lib.hid h
  clear h hb HB7
  go_wp2_with fail
  have SM := Lib.hid (vsame_rin' A11 c11 A12 c12 X1 X1 w8 R11.out R12.out)
  rw [decide_eq_true rfl] at SM
  refine SM.out.mono ?_
  rintro q w9 ⟨rfl, hb⟩
  have HB9 := Lib.hid (HB8.out.trans (hb.mono HB8.out.size))
  have R13 := Lib.hid (R13.out.below hb)
  have R14 := Lib.hid (R14.out.below hb)
  have R15 := Lib.hid (R15.out.below hb)
  have R16 := Lib.hid (R16.out.below hb)
  have R17 := Lib.hid (R17.out.below hb)
  have R18 := Lib.hid (R18.out.below hb)
  clear hb HB8 SM R11 R12
  go_wp2_with fail
  have SM := Lib.hid (vsame_rin' A13 c13 A14 c14 X2 X2 w9 R13.out R14.out)
  rw [decide_eq_true rfl] at SM
  refine SM.out.mono ?_
  rintro q w10 ⟨rfl, hb⟩
  have HB10 := Lib.hid (HB9.out.trans (hb.mono HB9.out.size))
  have R15 := Lib.hid (R15.out.below hb)
  have R16 := Lib.hid (R16.out.below hb)
  have R17 := Lib.hid (R17.out.below hb)
  have R18 := Lib.hid (R18.out.below hb)
  clear hb HB9 SM R13 R14
  go_wp2_with fail
  have SM := Lib.hid (vsame_rin' A15 c15 A16 c16 X3 X3 w10 R15.out R16.out)
  rw [decide_eq_true rfl] at SM
  refine SM.out.mono ?_
  rintro q w11 ⟨rfl, hb⟩
  have HB11 := Lib.hid (HB10.out.trans (hb.mono HB10.out.size))
  have R17 := Lib.hid (R17.out.below hb)
  have R18 := Lib.hid (R18.out.below hb)
  clear hb HB10 SM R15 R16
  go_wp2_with fail
  have SM := Lib.hid (vsame_rin' A17 c17 A18 c18 X4 X4 w11 R17.out R18.out)
  rw [decide_eq_true rfl] at SM
  refine SM.out.mono ?_
  rintro q w12 ⟨rfl, hb⟩
  have HB12 := Lib.hid (HB11.out.trans (hb.mono HB11.out.size))
  clear hb HB11 SM R17 R18
  go_wp2_with fail
  refine (KhB.out _ HB12.out).mono ?_
  rintro q w13 ⟨rfl, hb⟩
  have HB13 := Lib.hid (HB12.out.trans (hb.mono HB12.out.size)); clear hb HB12
  have Z1 : Hid (RcAt (w13.alloc (.cells #[.int .i64 B.X0, .int .i64 B.Y0, .int .i64 B.X1, .int .i64 B.Y1] 41)) w13.heap.size B) := Lib.hid (RcAt.new w13 B _ rfl)
  have HB14 := Lib.hid (HB13.out.alloc HB13.out.size (.cells #[.int .i64 B.X0, .int .i64 B.Y0, .int .i64 B.X1, .int .i64 B.Y1] 41))
  simp only []
  go_wp2_with fail
  generalize w13.heap.size = g1 at *
  generalize World.alloc w13 _ = w14 at *
  refine (KhB2.out _ HB14.out).mono ?_
  rintro q w15 ⟨rfl, hb⟩
  have Z1 := Lib.hid (Z1.out.below hb Z1.out.lt)
  have HB15 := Lib.hid (HB14.out.trans (hb.mono HB14.out.size)); clear hb HB14 HB13
  have Z2 : Hid (RcAt (w15.alloc (.cells #[.int .i64 B.X0, .int .i64 B.Y0, .int .i64 B.X1, .int .i64 B.Y1] 41)) w15.heap.size B) := Lib.hid (RcAt.new w15 B _ rfl)
  have Z1 := Lib.hid (Z1.out.alloc (.cells #[.int .i64 B.X0, .int .i64 B.Y0, .int .i64 B.X1, .int .i64 B.Y1] 41))
  have HB16 := Lib.hid (HB15.out.alloc HB15.out.size (.cells #[.int .i64 B.X0, .int .i64 B.Y0, .int .i64 B.X1, .int .i64 B.Y1] 41))
  simp only []
  go_wp2_with fail
  generalize w15.heap.size = g2 at *
  generalize World.alloc w15 _ = w16 at *
  refine (KhP.out _ HB16.out).mono ?_
  rintro q w17 ⟨A20, c20, rfl, h, hb⟩
  have Z1 := Lib.hid (Z1.out.below hb Z1.out.lt); have Z2 := Lib.hid (Z2.out.below hb Z2.out.lt)
  have HB17 := Lib.hid (HB16.out.trans (hb.mono HB16.out.size))
  have P1 := Lib.hid h
  clear h hb HB16 HB15
  go_wp2_with fail
  refine (KhP2.out _ HB17.out).mono ?_
  rintro q w18 ⟨A21, c21, rfl, h, hb⟩
  have Z1 := Lib.hid (Z1.out.below hb Z1.out.lt); have Z2 := Lib.hid (Z2.out.below hb Z2.out.lt)
  have HB18 := Lib.hid (HB17.out.trans (hb.mono HB17.out.size))
  have P1 := Lib.hid (P1.out.below hb)
  have P2 := Lib.hid h
  clear h hb HB17
  have z0 := Z1.out.cell0; have z1 := Z1.out.cell1; have z2 := Z1.out.cell2; have z3 := Z1.out.cell3; have zl := Z1.out.lt
  have y0 := Z2.out.cell0; have y1 := Z2.out.cell1; have y2 := Z2.out.cell2; have y3 := Z2.out.cell3; have yl := Z2.out.lt
  obtain ⟨nL, hnL⟩ : ∃ nL, nL = LL.length := ⟨_, rfl⟩
  rw [← hnL]
  have HNL := Lib.hid hnL; clear hnL
  go_wp2_with fail
  clear z0 z1 z2 z3 zl y0 y1 y2 y3 yl Z1 Z2
  go_loopw [31] (fun i wr => ∃ (k : Nat), k ≤ nL ∧ i = .int .i64 k ∧ Hid (Below w18.heap.size w18 wr)) (fun i _ => nL - (intOf i).toNat)
  case atStart => exact ⟨0, Nat.zero_le _, rfl, Lib.hid (Below.refl _ _)⟩
  case round =>
    obtain ⟨k, hk, rfl, HW⟩ := hrel
    by_cases hlt : k < nL
    · have hkl : k < LL.length := by have := HNL.out; omega
      have hnl2 : nL ≤ 200 := by have := HNL.out; have := HLL.out; omega
      obtain ⟨b1, o1, rfl, hb1, hv1⟩ := (P1.out.below HW.out) (by omega)
      obtain ⟨b2, o2, rfl, hb2, hv2⟩ := (P2.out.below HW.out) (by omega)
      obtain ⟨Aj, cj, x0, hr1⟩ := hv1 k hkl
      obtain ⟨Ak, ck, y0, hr2⟩ := hv2 k hkl
      have HSM := Lib.hid (fun w' (h : Below wr.heap.size wr w') => vsame_rin' Aj cj Ak ck LL[k] LL[k] w' (hr1.below h) (hr2.below h))
      rw [show decide (LL[k] = LL[k]) = true from decide_eq_true rfl] at HSM
      generalize LL[k].length = n9 at *
      have HSM := Lib.hid (fun w' (h : G2 b1 (o1 + k) b2 (o2 + k) (.slice Aj n9 cj) (.slice Ak n9 ck) wr w') => HSM.out w' h.2.2.2.2.out)
      clear hv1 hv2 hr1 hr2
      have j0 : (0 : Int) ≤ (k : Int) := by omega
      have j1 : (k : Int) < (nL : Int) := by omega
      have E1 : Hid (G2 b1 (o1 + k) b2 (o2 + k) (.slice Aj n9 cj) (.slice Ak n9 ck) wr wr) := Lib.hid ⟨x0, y0, hb1, hb2, Lib.hid (Below.refl _ _)⟩
      clear x0 y0 hb1 hb2 hkl
      obtain ⟨wo, rfl⟩ : ∃ wo : World, wo = wr := ⟨_, rfl⟩
      go_wp2_with fail
      go_region_held3 (fun w' => w'.cell? ⟨b1, o1 + k, none⟩ = some (.slice Aj n9 cj) ∧ w'.cell? ⟨b2, o2 + k, none⟩ = some (.slice Ak n9 ck) ∧ b1 < w'.heap.size ∧ b2 < w'.heap.size ∧ Hid (Below wo.heap.size wo w'))
        (first | exact E1.out | exact G2.drewN E1.out 1 | exact G2.go ‹_› ‹_› | assumption)
        (first | (go_at_call 13; refine (HSM.out _ ?_).mono ?_; assumption; rintro e w' ⟨rfl, hb⟩) | fail)
      have E2 : G2 b1 (o1 + k) b2 (o2 + k) (.slice Aj n9 cj) (.slice Ak n9 ck) wo w' := by assumption
      have HW2 := Lib.hid (HW.out.trans (E2.2.2.2.2.out.mono HW.out.size))
      clear E1 HSM
      go_wp2_with fail
      go_roundw
      case rel => exact ⟨k + 1, by omega, by go_num, HW2⟩
      case measure => simp [intOf]; omega
    · obtain rfl : k = nL := by omega
      have HX0 := Lib.hid (HB18.out.trans (HW.out.mono HB18.out.size))
      clear HW P1 P2
      go_wp2_with fail
      refine (KhR.out _ HX0.out).mono ?_
      rintro q w19 ⟨rfl, hb⟩
      have HX1 := Lib.hid (HX0.out.trans (hb.mono HX0.out.size)); clear hb HX0
      go_wp2_with fail
      refine (KhR2.out _ HX1.out).mono ?_
      rintro q w20 ⟨rfl, hb⟩
      have HX2 := Lib.hid (HX1.out.trans (hb.mono HX1.out.size)); clear hb HX1
      go_wp2_with fail
      refine (KhA.out _ HX2.out).mono ?_
      rintro q w21 ⟨rfl, hb⟩
      have HX3 := Lib.hid (HX2.out.trans (hb.mono HX2.out.size)); clear hb HX2
      go_wp2_with fail
      refine (KhA2.out _ HX3.out).mono ?_
      rintro q w22 ⟨rfl, hb⟩
      have HX4 := Lib.hid (HX3.out.trans (hb.mono HX3.out.size)); clear hb HX3
      go_wp2_with fail
      refine (KhH.out _ HX4.out).mono ?_
      rintro q w23 ⟨rfl, hb⟩
      have HX5 := Lib.hid (HX4.out.trans (hb.mono HX4.out.size)); clear hb HX4
      go_wp2_with fail
      refine (KhH2.out _ HX5.out).mono ?_
      rintro q w24 ⟨rfl, hb⟩
      have HX6 := Lib.hid (HX5.out.trans (hb.mono HX5.out.size)); clear hb HX5
      go_wp2_with fail
      refine (KhE.out _ HX6.out).mono ?_
      rintro q w25 ⟨rfl, hb⟩
      have HX7 := Lib.hid (HX6.out.trans (hb.mono HX6.out.size)); clear hb HX6
      go_wp2_with fail
      refine (KhE2.out _ HX7.out).mono ?_
      rintro q w26 ⟨rfl, hb⟩
      have HX8 := Lib.hid (HX7.out.trans (hb.mono HX7.out.size)); clear hb HX7
      go_wp2_with fail
      go_ret
      exact ⟨rfl, HX8.out⟩
theorem same_any (A : Option Addr) (c : Nat) (A2 : Option Addr) (c2 : Nat) (a b : List Rc) (x y : Int) (w : World) (ha : RIn w A c a) (hb : RIn w A2 c2 b) : Calls Try.prog 14 #[.slice A a.length c, .slice A2 b.length c2, .int .i64 x, .int .i64 y] w (BlIs true w) := by
  have la := ha.len
  have k1 := opR_len1 or a b; have k2 := opR_len1 and a b; have k3 := opR_len1 andnot a b; have k4 := shiftG_len1 a x y
  have kp := partsG_len1 a
  have hpl : (partsG a).length ≤ 200 := by
    unfold partsG
    split
    · rename_i h
      have := partsN_le a a.length
      have h2 := h.2
      unfold partsR partsL
      rw [List.length_map]
      omega
    · exact Nat.zero_le _
  exact same_core A c A2 c2 a b x y (opR or a b).1 (opR and a b).1 (opR andnot a b).1 (shiftG a x y).1 (opR or a b).2 (opR and a b).2 (opR andnot a b).2 (shiftG a x y).2 (boundsG a).1 (boundsG a).2 (partsG a) (decide (RegP a)) (areaG a) (hasRg a x y) (decide (a = b)) w hpl
    (fun w' h => (gunion_any A c A2 c2 a b w' (ha.below h) (hb.below h)).mono fun e w2 h2 => h2.rr (by omega)) (fun w' h => (vunion_any A c A2 c2 a b w' (ha.below h) (hb.below h)).mono fun e w2 h2 => h2.rr (by omega))
    (fun w' h => (gcommon_any A c A2 c2 a b w' (ha.below h) (hb.below h)).mono fun e w2 h2 => h2.rr (by omega)) (fun w' h => (vcommon_any A c A2 c2 a b w' (ha.below h) (hb.below h)).mono fun e w2 h2 => h2.rr (by omega))
    (fun w' h => (gminus_any A c A2 c2 a b w' (ha.below h) (hb.below h)).mono fun e w2 h2 => h2.rr (by omega)) (fun w' h => (vminus_any A c A2 c2 a b w' (ha.below h) (hb.below h)).mono fun e w2 h2 => h2.rr (by omega))
    (fun w' h => (gshift_any A c a x y w' (ha.below h)).mono fun e w2 h2 => h2.rr (by omega)) (fun w' h => (vshift_any A c a x y w' (ha.below h)).mono fun e w2 h2 => h2.rr (by omega))
    (fun w' h => gbounds_any A c a w' (ha.below h)) (fun w' h => vbounds_any A c a w' (ha.below h))
    (fun w' h => (gparts_all A c a w' (ha.below h)).mono fun e w2 h2 => h2.ls (fun p hp => by have := kp p hp; omega)) (fun w' h => (vparts_all A c a w' (ha.below h)).mono fun e w2 h2 => h2.ls (fun p hp => by have := kp p hp; omega))
    (fun w' h => gright_dec A c a w' (ha.below h)) (fun w' h => vRight_dec A c a w' (ha.below h))
    (fun w' h => garea_any A c a w' (ha.below h)) (fun w' h => varea_any A c a w' (ha.below h))
    (fun w' h => ghas_any A c a x y w' (ha.below h)) (fun w' h => vhas_any A c a x y w' (ha.below h))
    (fun w' h => gsame_any A c A2 c2 a b w' (ha.below h).row (hb.below h).row ha.len hb.len) (fun w' h => vsame_any A c A2 c2 a b w' (ha.below h).row (hb.below h).row ha.len hb.len)
set_option maxHeartbeats 16000000 in
theorem wtells_any (A : Option Addr) (c : Nat) (A2 : Option Addr) (c2 : Nat) (a b : List Rc) (x y : Int) (w : World) (hra : RRow w A a) (hca : a.length ≤ c) (hcb : c ≤ 9223372036854775807) (hrb : RRow w A2 b) (hca2 : b.length ≤ c2) (hcb2 : c2 ≤ 9223372036854775807) :
    Calls Try.prog 3 #[.slice A a.length c, .slice A2 b.length c2, .int .i64 x, .int .i64 y] w (BlIs true w) := by
  by_cases la : a.length ≤ 60
  · have s1 : ¬ (60 : Int) < (a.length : Int) := by omega
    by_cases lb : b.length ≤ 60
    · have s2 : ¬ (60 : Int) < (b.length : Int) := by omega
      have ha : RIn w A c a := ⟨hra, by omega, hca, hcb⟩
      have hb : RIn w A2 c2 b := ⟨hrb, by omega, hca2, hcb2⟩
      have l1 := ofR_len1 a; have l2 := ofR_len1 b
      have HO1 := Lib.hid (fun w' (h : Below w.heap.size w w') => (gof_any A c a w' (ha.below h).row ha.len).mono fun e w2 h2 => h2.rr (by omega))
      have HO2 := Lib.hid (fun w' (h : Below w.heap.size w w') => (vof_any A c a w' (ha.below h).row ha.len).mono fun e w2 h2 => h2.rr (by omega))
      have HO3 := Lib.hid (fun w' (h : Below w.heap.size w w') => (vof_any A2 c2 b w' (hb.below h).row hb.len).mono fun e w2 h2 => h2.rr (by omega))
      have HS1 := Lib.hid (fun w' (h : Below w.heap.size w w') => same_any A c A2 c2 a b x y w' (ha.below h) (hb.below h))
      generalize (ofR a).2 = ea at *
      generalize (ofR b).2 = eb at *
      generalize (ofR a).1 = D at *
      generalize (ofR b).1 = G at *
      clear hra hca hcb hrb hca2 hcb2 la lb l1 l2 ha hb
      go_enter Try.func3, Try.ntmps3
      go_wp2_with fail
      refine (small_any _).mono ?_
      rintro q w1 ⟨rfl, hb⟩
      have HB1 := Lib.hid hb; clear hb
      go_wp2_with fail
      refine (HO1.out _ HB1.out).mono ?_
      rintro q w2 ⟨A11, c11, rfl, h, hb⟩
      have HB2 := Lib.hid (HB1.out.trans (hb.mono HB1.out.size))
      have R1 := Lib.hid h; clear h hb HB1
      go_wp2_with fail
      refine (HO2.out _ HB2.out).mono ?_
      rintro q w3 ⟨A12, c12, rfl, h, hb⟩
      have HB3 := Lib.hid (HB2.out.trans (hb.mono HB2.out.size))
      have R1 := Lib.hid (R1.out.below hb)
      have R2 := Lib.hid h; clear h hb HB2
      have SM := Lib.hid (vsame_rin' A11 c11 A12 c12 D D w3 R1.out R2.out)
      rw [decide_eq_true rfl] at SM
      go_wp2_with fail
      refine SM.out.mono ?_
      rintro q w4 ⟨rfl, hb⟩
      have HB4 := Lib.hid (HB3.out.trans (hb.mono HB3.out.size))
      have R2 := Lib.hid (R2.out.below hb); clear hb HB3 R1 SM
      go_wp2_with fail
      refine (HS1.out _ HB4.out).mono ?_
      rintro q w5 ⟨rfl, hb⟩
      have HB5 := Lib.hid (HB4.out.trans (hb.mono HB4.out.size))
      have R2 := Lib.hid (R2.out.below hb); clear hb HB4
      go_wp2_with fail
      refine (HO3.out _ HB5.out).mono ?_
      rintro q w6 ⟨A13, c13, rfl, h, hb⟩
      have HB6 := Lib.hid (HB5.out.trans (hb.mono HB5.out.size))
      have R2 := Lib.hid (R2.out.below hb)
      have R3 := Lib.hid h; clear h hb HB5
      have SM := Lib.hid (same_any A12 c12 A13 c13 D G x y w6 R2.out R3.out)
      go_wp2_with fail
      refine SM.out.mono ?_
      rintro q w7 ⟨rfl, hb⟩
      have HB7 := Lib.hid (HB6.out.trans (hb.mono HB6.out.size)); clear hb HB6 SM R2 R3
      go_wp2_with fail
      go_ret
      exact ⟨rfl, HB7.out⟩
    · have s2 : (60 : Int) < (b.length : Int) := by omega
      clear hra hca hcb hrb hca2 hcb2 la lb
      go_enter Try.func3, Try.ntmps3
      go_wp2_with fail
      refine (small_any _).mono ?_
      rintro q w1 ⟨rfl, hb⟩
      have HB1 := Lib.hid hb; clear hb
      go_wp2_with fail
      go_ret
      exact ⟨rfl, HB1.out⟩
  · have s1 : (60 : Int) < (a.length : Int) := by omega
    clear hra hca hcb hrb hca2 hcb2 la
    go_enter Try.func3, Try.ntmps3
    go_wp2_with fail
    refine (small_any _).mono ?_
    rintro q w1 ⟨rfl, hb⟩
    have HB1 := Lib.hid hb; clear hb
    go_wp2_with fail
    go_ret
    exact ⟨rfl, HB1.out⟩
end Go.Proofs.Ytcnojedijimheaa
