/-
  SolidAlgebra: the law's walk.
-/
import Derived.Test.YteecfgdicckplaaAs
import Derived.Laws.AppendOwnNone
set_option linter.unusedVariables false
set_option maxRecDepth 100000
namespace Go.Proofs.Yteecfgdicckplaa
open Go.RowKit

/-- the source of an append of boxes: nil, or cells that can be read. -/
def Src6 (w : World) (v2 : Value) (m : Nat) (news : List Value) : Prop := (v2 = .slice none 0 0 ∧ m = 0 ∧ news = []) ∨ ∃ ad c, v2 = .slice (some ad) m c ∧ news.length = m * 6 ∧ (∀ j u, news[j]? = some u → w.cell? (ad.add j) = some u) ∧ ∀ u ∈ news, u.oneCell' = true
theorem wpList_append_src6 {P : Program} {w : World} {ops : Array Oper} {rest : List Oper} {o : Oper} {a : Act} {Q : Exit → Act → World → Prop} (hgd : o.guard = none) (s x : Operand) (t : TypeId)
    (ho : o.op = .call { callee := .builtin .append, args := #[s, x], argTypes := #[t, t] })
    (base : Nat) (e : TypeId) (i : TypeInfo) (z : Value) (bytes : Nat) (ht : P.underlying t = some (.slice e)) (hi : P.info? e = some i) (hz : i.zero = some z)
    (hsize : i.size = 6) (hby : i.bytes = bytes) (hzs : z.cells.size = 6)
    (v : Value) (n : Nat) (xs : List Value) (hs : a.eval s = v) (hown : w.ownsRow base e 6 v n xs)
    (v2 : Value) (m : Nat) (news : List Value) (hx : a.eval x = v2) (hsrc : Src6 w v2 m news)
    (h63 : n + m ≤ maxLen) (hbytes : (n + m) * bytes ≤ 140737488355328) (hbase : base ≤ w.heap.size)
    (h : ∀ v' w', w'.ownsRow base e 6 v' (n + m) (xs ++ news) → w.grownBy w' v.ownBlock → wpList P ops Q rest (a.put o.dst v') w') : wpList P ops Q (o :: rest) a w := by
  rcases hsrc with ⟨h1, rfl, rfl⟩ | ⟨ad, c, h1, h2, h3, h4⟩
  · exact wpList_append_own_none hgd s x t ho base e i 6 ht hi v n xs hs hown (hx.trans h1) (h v w (by rw [List.append_nil]; exact hown) (World.grownBy.refl _ _))
  · exact wpList_append_own w hgd s x t ho base e i z 6 bytes ht hi hz hsize hby hzs (by decide) v n xs hs hown ad m c news (hx.trans h1) h2 h3 h4 h63 hbytes hbase (fun v' w' a b _ => h v' w' a b)
theorem bxcells_one : ∀ (l : List Bx), ∀ u ∈ bxcells l, u.oneCell' = true := by
  intro l u hu
  obtain ⟨t, _, h⟩ := List.mem_flatMap.1 hu
  simp [bxc] at h
  rcases h with rfl | rfl | rfl | rfl | rfl | rfl <;> rfl
theorem src_of6 {w : World} {A : Option Addr} {cap : Nat} {l : List Bx} (h : BIn w A cap l) : Src6 w (.slice A l.length cap) l.length (bxcells l) := by
  cases A with
  | none =>
    have h1 := h.nil rfl
    have h2 := h.room
    have h3 : l.length = 0 := by omega
    obtain rfl := List.length_eq_zero_iff.1 h3
    exact Or.inl ⟨by rw [h1]; rfl, rfl, rfl⟩
  | some ad =>
    refine Or.inr ⟨ad, cap, rfl, bxcells_len l, fun j u hu => ?_, bxcells_one l⟩
    have hj : j / 6 < l.length := by
      have := (List.getElem?_eq_some_iff.1 hu).1
      rw [bxcells_len] at this
      omega
    obtain ⟨b, o, e, hb, hc⟩ := h.row (by omega)
    injection e with e
    subst e
    obtain ⟨c0, c1, c2, c3, c4, c5⟩ := hc _ hj
    obtain ⟨d0, d1, d2, d3, d4, d5⟩ := bxcells_at l _ hj
    have hadd : (⟨b, o, none⟩ : Addr).add j = ⟨b, o + j, none⟩ := by unfold Addr.add; split <;> simp_all
    rw [hadd]
    have hm : j % 6 = 0 ∨ j % 6 = 1 ∨ j % 6 = 2 ∨ j % 6 = 3 ∨ j % 6 = 4 ∨ j % 6 = 5 := by omega
    rcases hm with hm | hm | hm | hm | hm | hm
    · rw [show j = j / 6 * 6 by omega] at hu ⊢
      rw [d0] at hu; rw [c0]; exact hu
    · rw [show j = j / 6 * 6 + 1 by omega] at hu ⊢
      rw [d1] at hu; rw [← Nat.add_assoc, c1]; exact hu
    · rw [show j = j / 6 * 6 + 2 by omega] at hu ⊢
      rw [d2] at hu; rw [← Nat.add_assoc, c2]; exact hu
    · rw [show j = j / 6 * 6 + 3 by omega] at hu ⊢
      rw [d3] at hu; rw [← Nat.add_assoc, c3]; exact hu
    · rw [show j = j / 6 * 6 + 4 by omega] at hu ⊢
      rw [d4] at hu; rw [← Nat.add_assoc, c4]; exact hu
    · rw [show j = j / 6 * 6 + 5 by omega] at hu ⊢
      rw [d5] at hu; rw [← Nat.add_assoc, c5]; exact hu
theorem zero_own6 (w : World) : (w.alloc (.cells #[] 39)).ownsRow w.heap.size 39 6 (.slice (some ⟨w.heap.size, 0, none⟩) 0 0) 0 [] :=
  ⟨rfl, Or.inr ⟨w.heap.size, 0, #[], rfl, Nat.le_refl _, heap_alloc_new w _, Nat.le_refl _, by unfold maxLen; omega, rfl, rfl⟩⟩
/-- one operation, with the numbers of slabs as variables. -/
def Op9 (f : Nat) (P : List Sl) (n : Nat) (Q : List Sl) (m : Nat) (R : List Sl) (k : Nat) (er : Int) : Prop := ∀ (w' : World) (A1 : Option Addr) (c1 : Nat) (A2 : Option Addr) (c2 : Nat), SIn w' A1 c1 P → SIn w' A2 c2 Q → Calls Try.prog f #[.slice A1 n c1, .slice A2 m c2] w' (RS9 R k er w')
def Eq9 (P : List Sl) (n : Nat) : Prop := ∀ (w' : World) (A1 : Option Addr) (c1 : Nat) (A2 : Option Addr) (c2 : Nat), SIn w' A1 c1 P → SIn w' A2 c2 P → Calls Try.prog 18 #[.slice A1 n c1, .slice A2 n c2] w' (BlIs true w')
def Vol9 (P : List Sl) (n : Nat) (v : Int) : Prop := ∀ (w' : World) (A1 : Option Addr) (c1 : Nat), SIn w' A1 c1 P → Calls Try.prog 17 #[.slice A1 n c1] w' (InIs v w')
def Of9 (l : List Bx) (n : Nat) (P : List Sl) (m : Nat) (er : Int) : Prop := ∀ (w' : World) (A1 : Option Addr) (c1 : Nat), BxRow w' A1 l → Calls Try.prog 10 #[.slice A1 n c1] w' (RS9 P m er w')
set_option maxHeartbeats 80000000 in
theorem algebra9_core (Aa Ab Ac : Option Addr) (ca cb cc na nb nc : Nat) (a b c : List Bx) (X Y Z XY YZ AL IN XZ T3 LE T5 : List Sl) (nX nY nZ nXY nYZ nAL nIN nXZ nT3 nLE nT5 : Nat) (vXY vIN vX vY e3 e5 : Int) (SS BB : Nat → List Sl) (w : World)
    (ha : BIn w Aa ca a) (hb : BIn w Ab cb b) (hc : BIn w Ac cc c) (HNA : Hid (na = a.length)) (HNB : Hid (nb = b.length)) (HNC : Hid (nc = c.length)) (ma : na ≤ 4) (mb : nb ≤ 4) (mc : nc ≤ 4)
    (x0 : 0 ≤ vXY ∧ vXY ≤ 1000000000000000000) (x1 : 0 ≤ vIN ∧ vIN ≤ 1000000000000000000) (x2 : 0 ≤ vX ∧ vX ≤ 1000000000000000000) (x3 : 0 ≤ vY ∧ vY ≤ 1000000000000000000) (xs : ((vXY + vIN) != (vX + vY)) = false)
    (HX : Hid (Of9 a na X nX 0))
    (HY : Hid (Of9 b nb Y nY 0))
    (HZ : Hid (Of9 c nc Z nZ 0))
    (Oxy : Hid (Op9 11 X nX Y nY XY nXY 0))
    (Oyx : Hid (Op9 11 Y nY X nX XY nXY 0))
    (Oyz : Hid (Op9 11 Y nY Z nZ YZ nYZ 0))
    (Oone : Hid (Op9 11 XY nXY Z nZ AL nAL 0))
    (Otwo : Hid (Op9 11 X nX YZ nYZ AL nAL 0))
    (Oin : Hid (Op9 12 X nX Y nY IN nIN 0))
    (Oback : Hid (Op9 12 Y nY X nX IN nIN 0))
    (Oxz : Hid (Op9 12 X nX Z nZ XZ nXZ 0))
    (Othree : Hid (Op9 12 X nX YZ nYZ T3 nT3 e3))
    (Ofour : Hid (Op9 11 IN nIN XZ nXZ T3 nT3 e3))
    (Oless : Hid (Op9 13 X nX Y nY LE nLE 0))
    (Orest : Hid (Op9 12 LE nLE Y nY [] 0 0))
    (Owhole : Hid (Op9 11 LE nLE IN nIN X nX 0))
    (Ofive : Hid (Op9 13 X nX YZ nYZ T5 nT5 e5))
    (Osix : Hid (Op9 13 LE nLE Z nZ T5 nT5 e5))
    (SXY : Hid (Eq9 XY nXY))
    (SAL : Hid (Eq9 AL nAL))
    (SIN : Hid (Eq9 IN nIN))
    (ST3 : Hid (Eq9 T3 nT3))
    (SX : Hid (Eq9 X nX))
    (ST5 : Hid (Eq9 T5 nT5))
    (VXY : Hid (Vol9 XY nXY vXY))
    (VIN : Hid (Vol9 IN nIN vIN))
    (VX : Hid (Vol9 X nX vX))
    (VY : Hid (Vol9 Y nY vY))
    (Hall : Hid (∀ (w' : World) (B : Nat) (v : Value), w'.ownsRow B 39 6 v (nc + na + nb) (bxcells c ++ (bxcells a ++ bxcells b)) → Calls Try.prog 10 #[v] w' (RS9 AL nAL 0 w')))
    (Hbox : Hid (∀ k j (hj : j < a.length), j + k + 1 = a.length → ∀ (w' : World) (A1 : Option Addr) (c1 : Nat), BxRow w' A1 [a[j]] → Calls Try.prog 10 #[.slice A1 1 c1] w' (RS9 (BB k) (BB k).length 0 w')))
    (Hsum : Hid (∀ k, k < a.length → Op9 11 (SS k) (SS k).length (BB k) (BB k).length (SS (k + 1)) (SS (k + 1)).length 0)) (HS0 : Hid (SS 0 = [])) (HSX : Hid (SS na = X)) (HXL : Hid (nX = X.length))
    (HSM : Hid (Calls Try.prog 8 #[] w (BlIs true w))) :
    Calls Try.prog 4 #[.slice Aa na ca, .slice Ab nb cb, .slice Ac nc cc] w (BlIs true w) := by
  obtain ⟨i0, hi9, hz0, hz1, hz2⟩ := info_parts infoBox
  have KA := Lib.hid ha; have KB := Lib.hid hb; have KC := Lib.hid hc
  clear ha hb hc
  obtain ⟨y0, y1⟩ := x0
  obtain ⟨y2, y3⟩ := x1
  obtain ⟨y4, y5⟩ := x2
  obtain ⟨y6, y7⟩ := x3
  have u1 : IntKind.i64.wrap (vXY + vIN) = vXY + vIN := IntWalk.i64_in _ (by omega)
  have u2 : IntKind.i64.wrap (vX + vY) = vX + vY := IntWalk.i64_in _ (by omega)
  have m1 : ¬ (4 : Int) < (na : Int) := by omega
  have m2 : ¬ (4 : Int) < (nb : Int) := by omega
  have m3 : ¬ (4 : Int) < (nc : Int) := by omega
  go_enter Try.func4, Try.ntmps4
  go_wp2_with fail
  refine HSM.out.mono ?_
  rintro e0 w0 ⟨rfl, hb0⟩
  have K0 := Lib.hid ((SK9.start w).go hb0)
  clear hb0
  go_wp2_with fail
  refine (HX.out _ _ _ (KA.out.below K0.out.2.2).row).mono ?_
  rintro e1 w1 ⟨A1, c1, rfl, hr1, hb1⟩
  have K1 := Lib.hid (K0.out.addM hb1 hr1)
  clear hr1 hb1 K0
  go_wp2_with fail
  refine (HY.out _ _ _ (KB.out.below K1.out.2.2).row).mono ?_
  rintro e2 w2 ⟨A2, c2, rfl, hr2, hb2⟩
  have K2 := Lib.hid (K1.out.addM hb2 hr2)
  clear hr2 hb2 K1
  go_wp2_with fail
  refine (HZ.out _ _ _ (KC.out.below K2.out.2.2).row).mono ?_
  rintro e3 w3 ⟨A3, c3, rfl, hr3, hb3⟩
  have K3 := Lib.hid (K2.out.addM hb3 hr3)
  clear hr3 hb3 K2
  go_wp2_with fail
  refine (Oxy.out _ _ _ _ _ (K3.out.2.1 _ (List.mem_cons_of_mem _ (List.mem_cons_of_mem _ List.mem_cons_self))) (K3.out.2.1 _ (List.mem_cons_of_mem _ List.mem_cons_self))).mono ?_
  rintro e4 w4 ⟨A4, c4, rfl, hr4, hb4⟩
  have K4 := Lib.hid (K3.out.addM hb4 hr4)
  clear hr4 hb4 K3
  go_wp2_with fail
  refine (Oyx.out _ _ _ _ _ (K4.out.2.1 _ (List.mem_cons_of_mem _ (List.mem_cons_of_mem _ List.mem_cons_self))) (K4.out.2.1 _ (List.mem_cons_of_mem _ (List.mem_cons_of_mem _ (List.mem_cons_of_mem _ List.mem_cons_self))))).mono ?_
  rintro e5 w5 ⟨A5, c5, rfl, hr5, hb5⟩
  have K5 := Lib.hid (K4.out.addM hb5 hr5)
  clear hr5 hb5 K4
  go_wp2_with fail
  refine (Oyz.out _ _ _ _ _ (K5.out.2.1 _ (List.mem_cons_of_mem _ (List.mem_cons_of_mem _ (List.mem_cons_of_mem _ List.mem_cons_self)))) (K5.out.2.1 _ (List.mem_cons_of_mem _ (List.mem_cons_of_mem _ List.mem_cons_self)))).mono ?_
  rintro e6 w6 ⟨A6, c6, rfl, hr6, hb6⟩
  have K6 := Lib.hid (K5.out.addM hb6 hr6)
  clear hr6 hb6 K5
  go_wp2_with fail
  refine (Oone.out _ _ _ _ _ (K6.out.2.1 _ (List.mem_cons_of_mem _ (List.mem_cons_of_mem _ List.mem_cons_self))) (K6.out.2.1 _ (List.mem_cons_of_mem _ (List.mem_cons_of_mem _ (List.mem_cons_of_mem _ List.mem_cons_self))))).mono ?_
  rintro e7 w7 ⟨A7, c7, rfl, hr7, hb7⟩
  have K7 := Lib.hid (K6.out.addM hb7 hr7)
  clear hr7 hb7 K6
  go_wp2_with fail
  refine (Otwo.out _ _ _ _ _ (K7.out.2.1 _ (List.mem_cons_of_mem _ (List.mem_cons_of_mem _ (List.mem_cons_of_mem _ (List.mem_cons_of_mem _ (List.mem_cons_of_mem _ (List.mem_cons_of_mem _ List.mem_cons_self))))))) (K7.out.2.1 _ (List.mem_cons_of_mem _ List.mem_cons_self))).mono ?_
  rintro e8 w8 ⟨A8, c8, rfl, hr8, hb8⟩
  have K8 := Lib.hid (K7.out.addM hb8 hr8)
  clear hr8 hb8 K7
  have st1 := Lib.hid (zero_own6 w8)
  have HB1 : Hid (Below w8.heap.size w8 (w8.alloc (.cells #[] 39))) := Lib.hid ((Below.refl _ _).alloc (Nat.le_refl _) _)
  have SR1 : Hid (Src6 (w8.alloc (.cells #[] 39)) (.slice Ac nc cc) nc (bxcells c)) := Lib.hid (by rw [HNC.out]; exact src_of6 ((KC.out.below K8.out.2.2).below HB1.out))
  go_wp2_with (at_builtin; refine wpList_append_src6 rfl _ _ 22 rfl w8.heap.size 39 i0 (.agg #[.int .i64 0, .int .i64 0, .int .i64 0, .int .i64 0, .int .i64 0, .int .i64 0]) 48 Try.underlying22 hi9 hz0 hz1 hz2 rfl _ _ _ rfl st1.out _ _ _ rfl SR1.out ?q1 ?q2 ?q3 ?_)
  case q1 => unfold maxLen; omega
  case q2 => omega
  case q3 => exact HB1.out.size
  intro v1 u1 own1 gr1
  have HO1 : Hid (u1.ownsRow w8.heap.size 39 6 v1 nc (bxcells c)) := Lib.hid (by first | exact own1 | (rw [Nat.zero_add, List.nil_append] at own1; exact own1))
  have HB2 : Hid (Below w8.heap.size w8 u1) := Lib.hid (Below.grown HB1.out gr1 HB1.out.size (fun j hj => (st1.out.lt j hj).1))
  have SR2 : Hid (Src6 u1 (.slice Aa na ca) na (bxcells a)) := Lib.hid (by rw [HNA.out]; exact src_of6 ((KA.out.below K8.out.2.2).below HB2.out))
  clear own1 gr1 st1 SR1 HB1
  go_wp2_with (at_builtin; refine wpList_append_src6 rfl _ _ 22 rfl w8.heap.size 39 i0 (.agg #[.int .i64 0, .int .i64 0, .int .i64 0, .int .i64 0, .int .i64 0, .int .i64 0]) 48 Try.underlying22 hi9 hz0 hz1 hz2 rfl _ _ _ rfl HO1.out _ _ _ rfl SR2.out ?q1 ?q2 ?q3 ?_)
  case q1 => unfold maxLen; omega
  case q2 => omega
  case q3 => exact HB2.out.size
  intro v2 u2 own2 gr2
  have HO2 := Lib.hid own2
  have HB3 : Hid (Below w8.heap.size w8 u2) := Lib.hid (Below.grown HB2.out gr2 HB2.out.size (fun j hj => (HO1.out.lt j hj).1))
  have SR3 : Hid (Src6 u2 (.slice Ab nb cb) nb (bxcells b)) := Lib.hid (by rw [HNB.out]; exact src_of6 ((KB.out.below K8.out.2.2).below HB3.out))
  clear own2 gr2 HO1 SR2 HB2
  go_wp2_with (at_builtin; refine wpList_append_src6 rfl _ _ 22 rfl w8.heap.size 39 i0 (.agg #[.int .i64 0, .int .i64 0, .int .i64 0, .int .i64 0, .int .i64 0, .int .i64 0]) 48 Try.underlying22 hi9 hz0 hz1 hz2 rfl _ _ _ rfl HO2.out _ _ _ rfl SR3.out ?q1 ?q2 ?q3 ?_)
  case q1 => unfold maxLen; omega
  case q2 => omega
  case q3 => exact HB3.out.size
  intro v3 u3 own3 gr3
  have HO3 := Lib.hid own3
  have HB4 : Hid (Below w8.heap.size w8 u3) := Lib.hid (Below.grown HB3.out gr3 HB3.out.size (fun j hj => (HO2.out.lt j hj).1))
  clear own3 gr3 HO2 SR3 HB3
  go_wp2_with fail
  refine (Hall.out _ _ _ HO3.out).mono ?_
  rintro e9 w9 ⟨A9, c9, rfl, hr9, hb9⟩
  have K9 := Lib.hid ((K8.out.go HB4.out).addM hb9 hr9)
  clear hr9 hb9 K8
  go_wp2_with fail
  refine (Oin.out _ _ _ _ _ (K9.out.2.1 _ (List.mem_cons_of_mem _ (List.mem_cons_of_mem _ (List.mem_cons_of_mem _ (List.mem_cons_of_mem _ (List.mem_cons_of_mem _ (List.mem_cons_of_mem _ (List.mem_cons_of_mem _ (List.mem_cons_of_mem _ List.mem_cons_self))))))))) (K9.out.2.1 _ (List.mem_cons_of_mem _ (List.mem_cons_of_mem _ (List.mem_cons_of_mem _ (List.mem_cons_of_mem _ (List.mem_cons_of_mem _ (List.mem_cons_of_mem _ (List.mem_cons_of_mem _ List.mem_cons_self))))))))).mono ?_
  rintro e10 w10 ⟨A10, c10, rfl, hr10, hb10⟩
  have K10 := Lib.hid (K9.out.addM hb10 hr10)
  clear hr10 hb10 K9
  go_wp2_with fail
  refine (Oback.out _ _ _ _ _ (K10.out.2.1 _ (List.mem_cons_of_mem _ (List.mem_cons_of_mem _ (List.mem_cons_of_mem _ (List.mem_cons_of_mem _ (List.mem_cons_of_mem _ (List.mem_cons_of_mem _ (List.mem_cons_of_mem _ (List.mem_cons_of_mem _ List.mem_cons_self))))))))) (K10.out.2.1 _ (List.mem_cons_of_mem _ (List.mem_cons_of_mem _ (List.mem_cons_of_mem _ (List.mem_cons_of_mem _ (List.mem_cons_of_mem _ (List.mem_cons_of_mem _ (List.mem_cons_of_mem _ (List.mem_cons_of_mem _ (List.mem_cons_of_mem _ List.mem_cons_self))))))))))).mono ?_
  rintro e11 w11 ⟨A11, c11, rfl, hr11, hb11⟩
  have K11 := Lib.hid (K10.out.addM hb11 hr11)
  clear hr11 hb11 K10
  go_wp2_with fail
  refine (Oxz.out _ _ _ _ _ (K11.out.2.1 _ (List.mem_cons_of_mem _ (List.mem_cons_of_mem _ (List.mem_cons_of_mem _ (List.mem_cons_of_mem _ (List.mem_cons_of_mem _ (List.mem_cons_of_mem _ (List.mem_cons_of_mem _ (List.mem_cons_of_mem _ (List.mem_cons_of_mem _ (List.mem_cons_of_mem _ List.mem_cons_self))))))))))) (K11.out.2.1 _ (List.mem_cons_of_mem _ (List.mem_cons_of_mem _ (List.mem_cons_of_mem _ (List.mem_cons_of_mem _ (List.mem_cons_of_mem _ (List.mem_cons_of_mem _ (List.mem_cons_of_mem _ (List.mem_cons_of_mem _ List.mem_cons_self)))))))))).mono ?_
  rintro e12 w12 ⟨A12, c12, rfl, hr12, hb12⟩
  have K12 := Lib.hid (K11.out.addM hb12 hr12)
  clear hr12 hb12 K11
  go_wp2_with fail
  refine (Othree.out _ _ _ _ _ (K12.out.2.1 _ (List.mem_cons_of_mem _ (List.mem_cons_of_mem _ (List.mem_cons_of_mem _ (List.mem_cons_of_mem _ (List.mem_cons_of_mem _ (List.mem_cons_of_mem _ (List.mem_cons_of_mem _ (List.mem_cons_of_mem _ (List.mem_cons_of_mem _ (List.mem_cons_of_mem _ (List.mem_cons_of_mem _ List.mem_cons_self)))))))))))) (K12.out.2.1 _ (List.mem_cons_of_mem _ (List.mem_cons_of_mem _ (List.mem_cons_of_mem _ (List.mem_cons_of_mem _ (List.mem_cons_of_mem _ (List.mem_cons_of_mem _ List.mem_cons_self)))))))).mono ?_
  rintro e13 w13 ⟨A13, c13, rfl, hr13, hb13⟩
  have K13 := Lib.hid (K12.out.addM hb13 hr13)
  clear hr13 hb13 K12
  go_wp2_with fail
  refine (Ofour.out _ _ _ _ _ (K13.out.2.1 _ (List.mem_cons_of_mem _ (List.mem_cons_of_mem _ (List.mem_cons_of_mem _ List.mem_cons_self)))) (K13.out.2.1 _ (List.mem_cons_of_mem _ List.mem_cons_self))).mono ?_
  rintro e14 w14 ⟨A14, c14, rfl, hr14, hb14⟩
  have K14 := Lib.hid (K13.out.addM hb14 hr14)
  clear hr14 hb14 K13
  go_wp2_with fail
  refine (SXY.out _ _ _ _ _ (K14.out.2.1 _ (List.mem_cons_of_mem _ (List.mem_cons_of_mem _ (List.mem_cons_of_mem _ (List.mem_cons_of_mem _ (List.mem_cons_of_mem _ (List.mem_cons_of_mem _ (List.mem_cons_of_mem _ (List.mem_cons_of_mem _ (List.mem_cons_of_mem _ (List.mem_cons_of_mem _ List.mem_cons_self))))))))))) (K14.out.2.1 _ (List.mem_cons_of_mem _ (List.mem_cons_of_mem _ (List.mem_cons_of_mem _ (List.mem_cons_of_mem _ (List.mem_cons_of_mem _ (List.mem_cons_of_mem _ (List.mem_cons_of_mem _ (List.mem_cons_of_mem _ (List.mem_cons_of_mem _ List.mem_cons_self))))))))))).mono ?_
  rintro e15 w15 ⟨rfl, hb15⟩
  have K15 := Lib.hid (K14.out.go hb15)
  clear hb15 K14
  go_wp2_with fail
  refine (SAL.out _ _ _ _ _ (K15.out.2.1 _ (List.mem_cons_of_mem _ (List.mem_cons_of_mem _ (List.mem_cons_of_mem _ (List.mem_cons_of_mem _ (List.mem_cons_of_mem _ (List.mem_cons_of_mem _ (List.mem_cons_of_mem _ List.mem_cons_self)))))))) (K15.out.2.1 _ (List.mem_cons_of_mem _ (List.mem_cons_of_mem _ (List.mem_cons_of_mem _ (List.mem_cons_of_mem _ (List.mem_cons_of_mem _ (List.mem_cons_of_mem _ List.mem_cons_self)))))))).mono ?_
  rintro e16 w16 ⟨rfl, hb16⟩
  have K16 := Lib.hid (K15.out.go hb16)
  clear hb16 K15
  go_wp2_with fail
  refine (SAL.out _ _ _ _ _ (K16.out.2.1 _ (List.mem_cons_of_mem _ (List.mem_cons_of_mem _ (List.mem_cons_of_mem _ (List.mem_cons_of_mem _ (List.mem_cons_of_mem _ (List.mem_cons_of_mem _ (List.mem_cons_of_mem _ List.mem_cons_self)))))))) (K16.out.2.1 _ (List.mem_cons_of_mem _ (List.mem_cons_of_mem _ (List.mem_cons_of_mem _ (List.mem_cons_of_mem _ (List.mem_cons_of_mem _ List.mem_cons_self))))))).mono ?_
  rintro e17 w17 ⟨rfl, hb17⟩
  have K17 := Lib.hid (K16.out.go hb17)
  clear hb17 K16
  go_wp2_with fail
  refine (SIN.out _ _ _ _ _ (K17.out.2.1 _ (List.mem_cons_of_mem _ (List.mem_cons_of_mem _ (List.mem_cons_of_mem _ (List.mem_cons_of_mem _ List.mem_cons_self))))) (K17.out.2.1 _ (List.mem_cons_of_mem _ (List.mem_cons_of_mem _ (List.mem_cons_of_mem _ List.mem_cons_self))))).mono ?_
  rintro e18 w18 ⟨rfl, hb18⟩
  have K18 := Lib.hid (K17.out.go hb18)
  clear hb18 K17
  go_wp2_with fail
  refine (ST3.out _ _ _ _ _ (K18.out.2.1 _ (List.mem_cons_of_mem _ List.mem_cons_self)) (K18.out.2.1 _ List.mem_cons_self)).mono ?_
  rintro e19 w19 ⟨rfl, hb19⟩
  have K19 := Lib.hid (K18.out.go hb19)
  clear hb19 K18
  go_wp2_with fail
  refine (VXY.out _ _ _ (K19.out.2.1 _ (List.mem_cons_of_mem _ (List.mem_cons_of_mem _ (List.mem_cons_of_mem _ (List.mem_cons_of_mem _ (List.mem_cons_of_mem _ (List.mem_cons_of_mem _ (List.mem_cons_of_mem _ (List.mem_cons_of_mem _ (List.mem_cons_of_mem _ (List.mem_cons_of_mem _ List.mem_cons_self)))))))))))).mono ?_
  rintro e20 w20 ⟨rfl, hb20⟩
  have K20 := Lib.hid (K19.out.go hb20)
  clear hb20 K19
  go_wp2_with fail
  refine (VIN.out _ _ _ (K20.out.2.1 _ (List.mem_cons_of_mem _ (List.mem_cons_of_mem _ (List.mem_cons_of_mem _ (List.mem_cons_of_mem _ List.mem_cons_self)))))).mono ?_
  rintro e21 w21 ⟨rfl, hb21⟩
  have K21 := Lib.hid (K20.out.go hb21)
  clear hb21 K20
  go_wp2_with fail
  refine (VX.out _ _ _ (K21.out.2.1 _ (List.mem_cons_of_mem _ (List.mem_cons_of_mem _ (List.mem_cons_of_mem _ (List.mem_cons_of_mem _ (List.mem_cons_of_mem _ (List.mem_cons_of_mem _ (List.mem_cons_of_mem _ (List.mem_cons_of_mem _ (List.mem_cons_of_mem _ (List.mem_cons_of_mem _ (List.mem_cons_of_mem _ (List.mem_cons_of_mem _ (List.mem_cons_of_mem _ List.mem_cons_self))))))))))))))).mono ?_
  rintro e22 w22 ⟨rfl, hb22⟩
  have K22 := Lib.hid (K21.out.go hb22)
  clear hb22 K21
  go_wp2_with fail
  refine (VY.out _ _ _ (K22.out.2.1 _ (List.mem_cons_of_mem _ (List.mem_cons_of_mem _ (List.mem_cons_of_mem _ (List.mem_cons_of_mem _ (List.mem_cons_of_mem _ (List.mem_cons_of_mem _ (List.mem_cons_of_mem _ (List.mem_cons_of_mem _ (List.mem_cons_of_mem _ (List.mem_cons_of_mem _ (List.mem_cons_of_mem _ (List.mem_cons_of_mem _ List.mem_cons_self)))))))))))))).mono ?_
  rintro e23 w23 ⟨rfl, hb23⟩
  have K23 := Lib.hid (K22.out.go hb23)
  clear hb23 K22
  go_wp2_with fail
  refine (Oless.out _ _ _ _ _ (K23.out.2.1 _ (List.mem_cons_of_mem _ (List.mem_cons_of_mem _ (List.mem_cons_of_mem _ (List.mem_cons_of_mem _ (List.mem_cons_of_mem _ (List.mem_cons_of_mem _ (List.mem_cons_of_mem _ (List.mem_cons_of_mem _ (List.mem_cons_of_mem _ (List.mem_cons_of_mem _ (List.mem_cons_of_mem _ (List.mem_cons_of_mem _ (List.mem_cons_of_mem _ List.mem_cons_self)))))))))))))) (K23.out.2.1 _ (List.mem_cons_of_mem _ (List.mem_cons_of_mem _ (List.mem_cons_of_mem _ (List.mem_cons_of_mem _ (List.mem_cons_of_mem _ (List.mem_cons_of_mem _ (List.mem_cons_of_mem _ (List.mem_cons_of_mem _ (List.mem_cons_of_mem _ (List.mem_cons_of_mem _ (List.mem_cons_of_mem _ (List.mem_cons_of_mem _ List.mem_cons_self)))))))))))))).mono ?_
  rintro e24 w24 ⟨A24, c24, rfl, hr24, hb24⟩
  have K24 := Lib.hid (K23.out.addM hb24 hr24)
  clear hr24 hb24 K23
  go_wp2_with fail
  refine (Orest.out _ _ _ _ _ (K24.out.2.1 _ List.mem_cons_self) (K24.out.2.1 _ (List.mem_cons_of_mem _ (List.mem_cons_of_mem _ (List.mem_cons_of_mem _ (List.mem_cons_of_mem _ (List.mem_cons_of_mem _ (List.mem_cons_of_mem _ (List.mem_cons_of_mem _ (List.mem_cons_of_mem _ (List.mem_cons_of_mem _ (List.mem_cons_of_mem _ (List.mem_cons_of_mem _ (List.mem_cons_of_mem _ (List.mem_cons_of_mem _ List.mem_cons_self))))))))))))))).mono ?_
  rintro e25 w25 ⟨A25, c25, rfl, hr25, hb25⟩
  have K25 := Lib.hid (K24.out.addM hb25 hr25)
  clear hr25 hb25 K24
  go_wp2_with fail
  refine (Owhole.out _ _ _ _ _ (K25.out.2.1 _ (List.mem_cons_of_mem _ List.mem_cons_self)) (K25.out.2.1 _ (List.mem_cons_of_mem _ (List.mem_cons_of_mem _ (List.mem_cons_of_mem _ (List.mem_cons_of_mem _ (List.mem_cons_of_mem _ (List.mem_cons_of_mem _ List.mem_cons_self)))))))).mono ?_
  rintro e26 w26 ⟨A26, c26, rfl, hr26, hb26⟩
  have K26 := Lib.hid (K25.out.addM hb26 hr26)
  clear hr26 hb26 K25
  go_wp2_with fail
  refine (Ofive.out _ _ _ _ _ (K26.out.2.1 _ (List.mem_cons_of_mem _ (List.mem_cons_of_mem _ (List.mem_cons_of_mem _ (List.mem_cons_of_mem _ (List.mem_cons_of_mem _ (List.mem_cons_of_mem _ (List.mem_cons_of_mem _ (List.mem_cons_of_mem _ (List.mem_cons_of_mem _ (List.mem_cons_of_mem _ (List.mem_cons_of_mem _ (List.mem_cons_of_mem _ (List.mem_cons_of_mem _ (List.mem_cons_of_mem _ (List.mem_cons_of_mem _ (List.mem_cons_of_mem _ List.mem_cons_self))))))))))))))))) (K26.out.2.1 _ (List.mem_cons_of_mem _ (List.mem_cons_of_mem _ (List.mem_cons_of_mem _ (List.mem_cons_of_mem _ (List.mem_cons_of_mem _ (List.mem_cons_of_mem _ (List.mem_cons_of_mem _ (List.mem_cons_of_mem _ (List.mem_cons_of_mem _ (List.mem_cons_of_mem _ (List.mem_cons_of_mem _ List.mem_cons_self))))))))))))).mono ?_
  rintro e27 w27 ⟨A27, c27, rfl, hr27, hb27⟩
  have K27 := Lib.hid (K26.out.addM hb27 hr27)
  clear hr27 hb27 K26
  go_wp2_with fail
  refine (Osix.out _ _ _ _ _ (K27.out.2.1 _ (List.mem_cons_of_mem _ (List.mem_cons_of_mem _ (List.mem_cons_of_mem _ List.mem_cons_self)))) (K27.out.2.1 _ (List.mem_cons_of_mem _ (List.mem_cons_of_mem _ (List.mem_cons_of_mem _ (List.mem_cons_of_mem _ (List.mem_cons_of_mem _ (List.mem_cons_of_mem _ (List.mem_cons_of_mem _ (List.mem_cons_of_mem _ (List.mem_cons_of_mem _ (List.mem_cons_of_mem _ (List.mem_cons_of_mem _ (List.mem_cons_of_mem _ (List.mem_cons_of_mem _ (List.mem_cons_of_mem _ (List.mem_cons_of_mem _ List.mem_cons_self))))))))))))))))).mono ?_
  rintro e28 w28 ⟨A28, c28, rfl, hr28, hb28⟩
  have K28 := Lib.hid (K27.out.addM hb28 hr28)
  clear hr28 hb28 K27
  go_wp2_with fail
  refine (SX.out _ _ _ _ _ (K28.out.2.1 _ (List.mem_cons_of_mem _ (List.mem_cons_of_mem _ List.mem_cons_self))) (K28.out.2.1 _ (List.mem_cons_of_mem _ (List.mem_cons_of_mem _ (List.mem_cons_of_mem _ (List.mem_cons_of_mem _ (List.mem_cons_of_mem _ (List.mem_cons_of_mem _ (List.mem_cons_of_mem _ (List.mem_cons_of_mem _ (List.mem_cons_of_mem _ (List.mem_cons_of_mem _ (List.mem_cons_of_mem _ (List.mem_cons_of_mem _ (List.mem_cons_of_mem _ (List.mem_cons_of_mem _ (List.mem_cons_of_mem _ (List.mem_cons_of_mem _ (List.mem_cons_of_mem _ (List.mem_cons_of_mem _ List.mem_cons_self)))))))))))))))))))).mono ?_
  rintro e29 w29 ⟨rfl, hb29⟩
  have K29 := Lib.hid (K28.out.go hb29)
  clear hb29 K28
  go_wp2_with fail
  refine (ST5.out _ _ _ _ _ (K29.out.2.1 _ (List.mem_cons_of_mem _ List.mem_cons_self)) (K29.out.2.1 _ List.mem_cons_self)).mono ?_
  rintro e30 w30 ⟨rfl, hb30⟩
  have K30 := Lib.hid (K29.out.go hb30)
  clear hb30 K29
  go_wp2_with fail
  have HKA : Hid (BIn w30 Aa ca a) := Lib.hid (KA.out.below K30.out.2.2)
  have HKX : Hid (SIn w30 A1 c1 X) := Lib.hid (K30.out.2.1 _ (List.mem_cons_of_mem _ (List.mem_cons_of_mem _ (List.mem_cons_of_mem _ (List.mem_cons_of_mem _ (List.mem_cons_of_mem _ (List.mem_cons_of_mem _ (List.mem_cons_of_mem _ (List.mem_cons_of_mem _ (List.mem_cons_of_mem _ (List.mem_cons_of_mem _ (List.mem_cons_of_mem _ (List.mem_cons_of_mem _ (List.mem_cons_of_mem _ (List.mem_cons_of_mem _ (List.mem_cons_of_mem _ (List.mem_cons_of_mem _ (List.mem_cons_of_mem _ (List.mem_cons_of_mem _ List.mem_cons_self)))))))))))))))))))
  have HBW := Lib.hid K30.out.2.2
  have L0 : Hid (SIn w30 none 0 (SS 0)) := Lib.hid (by rw [HS0.out]; exact SIn.nil _)
  have HL0 : Hid ((SS 0).length = 0) := Lib.hid (by rw [HS0.out]; rfl)
  have HBB := Lib.hid (Below.refl w30.heap.size w30)
  clear K30 KA KB KC
  go_loopw [46, 47] (fun s i wr => ∃ (k : Nat) (As : Option Addr) (cs : Nat), k ≤ na ∧ i = .int .i64 k ∧ s = .slice As (SS k).length cs ∧ Hid (SIn wr As cs (SS k)) ∧ Hid (Below w30.heap.size w30 wr)) (fun _ i _ => na - (intOf i).toNat)
  case atStart => exact ⟨0, none, 0, Nat.zero_le _, rfl, by rw [HL0.out], L0, HBB⟩
  case round =>
    clear L0 HBB HL0
    obtain ⟨k, As, cs, hk, rfl, rfl, HS, HB⟩ := hrel
    by_cases hlt : k < na
    · have hka : k < a.length := by have := HNA.out; omega
      obtain ⟨j, hj⟩ : ∃ j : Nat, j + k + 1 = na := ⟨na - k - 1, by omega⟩
      have hja : j < a.length := by have := HNA.out; omega
      obtain ⟨b1, o1, eA, hb1, hv1⟩ := HKA.out.row (by omega)
      obtain ⟨x0, x1, x2, x3, x4, x5⟩ := hv1 j hja
      have wc := fun o => HB.out.cell (p := ⟨b1, o, none⟩) hb1
      have x0 := (wc _).trans x0; have x1 := (wc _).trans x1; have x2 := (wc _).trans x2; have x3 := (wc _).trans x3; have x4 := (wc _).trans x4; have x5 := (wc _).trans x5
      have hbs := HB.out.size
      have hbw : b1 < wr.heap.size := Nat.lt_of_lt_of_le hb1 hbs
      have n0 : (0 : Int) ≤ (j : Int) := by omega
      have n1 : (j : Int) < (na : Int) := by omega
      have n2 : (k : Int) < (na : Int) := by omega
      have r1 : IntKind.i64.wrap ((na : Int) - 1) = (na : Int) - 1 := IntWalk.i64_in _ (by omega)
      have r2 : IntKind.i64.wrap ((na : Int) - 1 - (k : Int)) = (j : Int) := by rw [show (na : Int) - 1 - (k : Int) = (j : Int) by omega]; exact IntWalk.i64_in _ (by omega)
      have HBX := Lib.hid (Hbox.out k j hja (by have := HNA.out; omega))
      have HSU := Lib.hid (Hsum.out k hka)
      clear hv1 wc
      obtain ⟨u, hu⟩ : ∃ u, u = a[j] := ⟨_, rfl⟩
      rw [← hu] at x0 x1 x2 x3 x4 x5 HBX
      clear hu
      have HJ := Lib.hid hj; clear hj
      subst eA
      generalize (BB k).length = nB at *
      generalize (SS k).length = nS at *
      obtain ⟨nT, hnT⟩ : ∃ nT, nT = (SS (k + 1)).length := ⟨_, rfl⟩
      rw [← hnT] at HSU
      have HNT := Lib.hid hnT; clear hnT
      have HAL := Lib.hid (HB.out.alloc hbs (.cells #[.int .i64 u.r.X0, .int .i64 u.r.Y0, .int .i64 u.r.X1, .int .i64 u.r.Y1, .int .i64 u.z0, .int .i64 u.z1] 39))
      go_wp2_with fail
      refine (HBX.out _ _ _ (lit_boxes wr [u] _ rfl _ rfl)).mono ?_
      rintro e1 q1 ⟨Ap, cp, rfl, hrp, hbp⟩
      have HSq : Hid (SIn q1 As cs (SS k)) := Lib.hid ((HS.out.below ((Below.refl _ _).alloc (Nat.le_refl _) _)).below hbp)
      have HPq := Lib.hid hrp
      have HBq := Lib.hid (HAL.out.trans (hbp.mono HAL.out.size))
      clear hrp hbp HAL HS HB x0 x1 x2 x3 x4 x5
      go_wp2_with fail
      refine (HSU.out _ _ _ _ _ HSq.out HPq.out).mono ?_
      rintro e2 q2 ⟨At, ct, rfl, hrt, hbt⟩
      have HSt := Lib.hid hrt
      have HBt := Lib.hid (HBq.out.trans (hbt.mono HBq.out.size))
      clear hrt hbt HSq HPq HBq
      go_wp2_with fail
      go_roundw
      case rel => exact ⟨k + 1, _, _, by omega, by go_num, by rw [← HNT.out], HSt, HBt⟩
      case measure => simp [intOf]; omega
    · obtain rfl : k = na := by omega
      have HSS : Hid (SIn wr As cs X) := Lib.hid (by have := HS.out; rw [HSX.out] at this; exact this)
      have HXX := Lib.hid (HKX.out.below HB.out)
      have HBB := Lib.hid (HBW.out.trans (HB.out.mono HBW.out.size))
      have e9 : (SS k).length = nX := by rw [HSX.out, HXL.out]
      rw [e9]
      clear HS HB e9 HKX
      go_wp2_with fail
      refine (SX.out _ _ _ _ _ HSS.out HXX.out).mono ?_
      rintro e1 q1 ⟨rfl, hbq⟩
      have HBE := Lib.hid (HBB.out.trans (hbq.mono HBB.out.size))
      clear hbq
      go_wp2_with fail
      go_ret
      exact ⟨rfl, HBE.out⟩
end Go.Proofs.Yteecfgdicckplaa
