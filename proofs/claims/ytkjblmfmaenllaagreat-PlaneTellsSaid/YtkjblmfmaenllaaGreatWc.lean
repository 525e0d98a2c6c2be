/-
  Contracts of the reference of layer 10, 7: bad.
-/
import Derived.Test.YtkjblmfmaenllaaGreatWb
set_option linter.unusedVariables false
set_option maxRecDepth 100000
namespace Go.Proofs.YtkjblmfmaenllaaGreat
open Go.RowKit

theorem Lw8.bel {ga gb : Nat} {r b : Rc} {W w : World} (h : Lw8 ga gb r b W w) : Below W.heap.size W w := h.2.2.2.2.2.2.2.2.2.2.out
/-- a cube at a corner of the rectangle is not allowed. -/
def BadC (r : Rc) (l : List Pl) (z : Int) (q : Rc) : Prop := ¬ AlwL r l q.X0 q.Y0 z ∨ ¬ AlwL r l (q.X1 - 1) q.Y0 z ∨ ¬ AlwL r l q.X0 (q.Y1 - 1) z ∨ ¬ AlwL r l (q.X1 - 1) (q.Y1 - 1) z
instance (r : Rc) (l : List Pl) (z : Int) (q : Rc) : Decidable (BadC r l z q) := by unfold BadC; infer_instance
def BadL (r : Rc) (l : List Pl) (z : Int) (a : List Rc) : Prop := ∃ q ∈ a, BadC r l z q
instance (r : Rc) (l : List Pl) (z : Int) (a : List Rc) : Decidable (BadL r l z a) := by unfold BadL; infer_instance
set_option maxHeartbeats 16000000 in
theorem nbad_any (r : Rc) (A : Option Addr) (cap : Nat) (l : List Pl) (A2 : Option Addr) (c2 : Nat) (a : List Rc) (z : Int) (w : World) (hl : PlIn w A cap l) (ha : ArgOk r l) (hr : RIn w A2 c2 a) (hok : ∀ q ∈ a, ROk q) (hz : 0 ≤ z ∧ z < 4096) :
    Calls Tryz.prog 65 #[.agg #[.int .i64 r.X0, .int .i64 r.Y0, .int .i64 r.X1, .int .i64 r.Y1], .slice A l.length cap, .slice A2 a.length c2, .int .i64 z] w (BlIs (decide (BadL r l z a)) w) := by
  have K := Lib.hid (LK.start (r := r) hl)
  have HL := Lib.hid hl
  have HR := Lib.hid hr
  have HO := Lib.hid hok
  have HAL := Lib.hid (fun x y (hc : GC x y) w' (h : Below w.heap.size w w') => nalw_any r A cap l x y z w' (hl.below h) ha hc hz)
  clear hl ha hr hok hz
  go_enter Tryz.func65, Tryz.ntmps65
  go_wp2_with fail
  generalize World.alloc w _ = w0 at *
  go_loopw [9] (fun i wr => ∃ (k : Nat), k ≤ a.length ∧ i = .int .i64 k ∧ Hid (LK r A cap l w wr) ∧ Hid (∀ j (h : j < a.length), j < k → ¬ BadC r l z a[j])) (fun i _ => a.length - (intOf i).toNat)
  case atStart => exact ⟨0, Nat.zero_le _, rfl, K, Lib.hid (fun j h hj => absurd hj (Nat.not_lt_zero _))⟩
  case round =>
  clear K
  obtain ⟨k, hk, rfl, K, HT⟩ := hrel
  by_cases hlt : k < a.length
  · have HR2 := Lib.hid (HR.out.below K.out.b)
    obtain ⟨ba, oa, rfl, hba, hva⟩ := HR2.out.row (by omega)
    obtain ⟨x0, x1, x2, x3⟩ := hva k hlt
    have hp := HO.out _ (List.getElem_mem hlt)
    have HM : Hid (BadC r l z a[k] → BadL r l z a) := Lib.hid (fun h => ⟨_, List.getElem_mem hlt, h⟩)
    have HNX : Hid (¬ BadC r l z a[k] → ∀ j (h : j < a.length), j < k + 1 → ¬ BadC r l z a[j]) := Lib.hid (fun hn j h hj => by
      by_cases e : j < k
      · exact HT.out j h e
      · obtain rfl : j = k := by omega
        exact hn)
    obtain ⟨u, hu⟩ : ∃ u, u = a[k] := ⟨_, rfl⟩
    rw [← hu] at x0 x1 x2 x3 hp HM HNX
    clear hu hva HT
    have n0 : (0 : Int) ≤ (k : Int) := by omega
    have n1 : (k : Int) < (a.length : Int) := by omega
    have hlen := HR.out.len
    have P0 := Lib.hid (RcAt.new wr u _ rfl)
    have ba0 : Below wr.heap.size wr (wr.alloc (.cells #[.int .i64 u.X0, .int .i64 u.Y0, .int .i64 u.X1, .int .i64 u.Y1] 33)) := (Below.refl _ _).alloc (Nat.le_refl _) _
    have K1 := Lib.hid (K.out.go ba0)
    clear ba0 K
    obtain ⟨⟨r0, r1, r2⟩, r3, r4, r5⟩ := hp
    have HA1 := Lib.hid (HAL.out u.X0 u.Y0 ⟨by omega, by omega⟩)
    have HA2 := Lib.hid (HAL.out (u.X1 - 1) u.Y0 ⟨by omega, by omega⟩)
    have HA3 := Lib.hid (HAL.out u.X0 (u.Y1 - 1) ⟨by omega, by omega⟩)
    have HA4 := Lib.hid (HAL.out (u.X1 - 1) (u.Y1 - 1) ⟨by omega, by omega⟩)
    have q0 : IntKind.i64.wrap (u.X1 - 1) = u.X1 - 1 := IntWalk.i64_in _ (by omega)
    have q1 : IntKind.i64.wrap (u.Y1 - 1) = u.Y1 - 1 := IntWalk.i64_in _ (by omega)
    have HU : Hid (BadC r l z u ↔ ¬ AlwL r l u.X0 u.Y0 z ∨ ¬ AlwL r l (u.X1 - 1) u.Y0 z ∨ ¬ AlwL r l u.X0 (u.Y1 - 1) z ∨ ¬ AlwL r l (u.X1 - 1) (u.Y1 - 1) z) := Lib.hid Iff.rfl
    obtain ⟨xm, hxm⟩ : ∃ xm, u.X1 - 1 = xm := ⟨_, rfl⟩
    obtain ⟨ym, hym⟩ : ∃ ym, u.Y1 - 1 = ym := ⟨_, rfl⟩
    rw [hxm, hym] at HU
    rw [hxm] at HA2
    rw [hym] at HA3
    rw [hxm, hym] at HA4
    replace q0 := q0.trans hxm
    replace q1 := q1.trans hym
    clear hxm hym r0 r1 r2 r3 r4 r5 HAL HO
    by_cases c0 : AlwL r l u.X0 u.Y0 z
    · by_cases c1 : AlwL r l xm u.Y0 z
      · by_cases c2 : AlwL r l u.X0 ym z
        · by_cases c3 : AlwL r l xm ym z
          · rw [decide_eq_true c0] at HA1
            rw [decide_eq_true c1] at HA2
            rw [decide_eq_true c2] at HA3
            rw [decide_eq_true c3] at HA4
            have HE := Lib.hid (HNX.out (fun h => (HU.out.1 h).elim (fun d => d c0) (fun d => d.elim (fun d => d c1) (fun d => d.elim (fun d => d c2) (fun d => d c3)))))
            clear HM HNX HU c0 c1 c2 c3
            have y0 := K1.out.r.cell0; have y1 := K1.out.r.cell1; have y2 := K1.out.r.cell2; have y3 := K1.out.r.cell3; have yl := K1.out.r.lt
            have p0 := P0.out.cell0; have p1 := P0.out.cell1; have p2 := P0.out.cell2; have p3 := P0.out.cell3; have pl := P0.out.lt
            go_wp2_with fail
            generalize World.alloc wr _ = w3 at *
            generalize wr.heap.size = pb at *
            clear x0 x1 x2 x3
            refine (HA1.out _ K1.out.b).mono ?_
            rintro e v0 ⟨rfl, hb⟩
            replace P0 := Lib.hid (P0.out.below hb P0.out.lt); replace K1 := Lib.hid (K1.out.go hb); clear hb HA1 y0 y1 y2 y3 yl p0 p1 p2 p3 pl
            have y0 := K1.out.r.cell0; have y1 := K1.out.r.cell1; have y2 := K1.out.r.cell2; have y3 := K1.out.r.cell3; have yl := K1.out.r.lt
            have p0 := P0.out.cell0; have p1 := P0.out.cell1; have p2 := P0.out.cell2; have p3 := P0.out.cell3; have pl := P0.out.lt
            go_wp2_with fail
            refine (HA2.out _ K1.out.b).mono ?_
            rintro e v1 ⟨rfl, hb⟩
            replace P0 := Lib.hid (P0.out.below hb P0.out.lt); replace K1 := Lib.hid (K1.out.go hb); clear hb HA2 y0 y1 y2 y3 yl p0 p1 p2 p3 pl
            have y0 := K1.out.r.cell0; have y1 := K1.out.r.cell1; have y2 := K1.out.r.cell2; have y3 := K1.out.r.cell3; have yl := K1.out.r.lt
            have p0 := P0.out.cell0; have p1 := P0.out.cell1; have p2 := P0.out.cell2; have p3 := P0.out.cell3; have pl := P0.out.lt
            go_wp2_with fail
            refine (HA3.out _ K1.out.b).mono ?_
            rintro e v2 ⟨rfl, hb⟩
            replace P0 := Lib.hid (P0.out.below hb P0.out.lt); replace K1 := Lib.hid (K1.out.go hb); clear hb HA3 y0 y1 y2 y3 yl p0 p1 p2 p3 pl
            have y0 := K1.out.r.cell0; have y1 := K1.out.r.cell1; have y2 := K1.out.r.cell2; have y3 := K1.out.r.cell3; have yl := K1.out.r.lt
            have p0 := P0.out.cell0; have p1 := P0.out.cell1; have p2 := P0.out.cell2; have p3 := P0.out.cell3; have pl := P0.out.lt
            go_wp2_with fail
            refine (HA4.out _ K1.out.b).mono ?_
            rintro e v3 ⟨rfl, hb⟩
            replace P0 := Lib.hid (P0.out.below hb P0.out.lt); replace K1 := Lib.hid (K1.out.go hb); clear hb HA4 y0 y1 y2 y3 yl p0 p1 p2 p3 pl
            have y0 := K1.out.r.cell0; have y1 := K1.out.r.cell1; have y2 := K1.out.r.cell2; have y3 := K1.out.r.cell3; have yl := K1.out.r.lt
            have p0 := P0.out.cell0; have p1 := P0.out.cell1; have p2 := P0.out.cell2; have p3 := P0.out.cell3; have pl := P0.out.lt
            go_wp2_with fail
            go_roundw
            case rel => exact ⟨k + 1, by omega, by go_num, K1, HE⟩
            case measure => simp [intOf]; omega
          · rw [decide_eq_true c0] at HA1
            rw [decide_eq_true c1] at HA2
            rw [decide_eq_true c2] at HA3
            rw [decide_eq_false c3] at HA4
            have HE := Lib.hid (decide_eq_true (HM.out (HU.out.2 (Or.inr (Or.inr (Or.inr c3))))))
            clear HM HNX HU c0 c1 c2 c3
            have y0 := K1.out.r.cell0; have y1 := K1.out.r.cell1; have y2 := K1.out.r.cell2; have y3 := K1.out.r.cell3; have yl := K1.out.r.lt
            have p0 := P0.out.cell0; have p1 := P0.out.cell1; have p2 := P0.out.cell2; have p3 := P0.out.cell3; have pl := P0.out.lt
            go_wp2_with fail
            generalize World.alloc wr _ = w3 at *
            generalize wr.heap.size = pb at *
            clear x0 x1 x2 x3
            refine (HA1.out _ K1.out.b).mono ?_
            rintro e v0 ⟨rfl, hb⟩
            replace P0 := Lib.hid (P0.out.below hb P0.out.lt); replace K1 := Lib.hid (K1.out.go hb); clear hb HA1 y0 y1 y2 y3 yl p0 p1 p2 p3 pl
            have y0 := K1.out.r.cell0; have y1 := K1.out.r.cell1; have y2 := K1.out.r.cell2; have y3 := K1.out.r.cell3; have yl := K1.out.r.lt
            have p0 := P0.out.cell0; have p1 := P0.out.cell1; have p2 := P0.out.cell2; have p3 := P0.out.cell3; have pl := P0.out.lt
            go_wp2_with fail
            refine (HA2.out _ K1.out.b).mono ?_
            rintro e v1 ⟨rfl, hb⟩
            replace P0 := Lib.hid (P0.out.below hb P0.out.lt); replace K1 := Lib.hid (K1.out.go hb); clear hb HA2 y0 y1 y2 y3 yl p0 p1 p2 p3 pl
            have y0 := K1.out.r.cell0; have y1 := K1.out.r.cell1; have y2 := K1.out.r.cell2; have y3 := K1.out.r.cell3; have yl := K1.out.r.lt
            have p0 := P0.out.cell0; have p1 := P0.out.cell1; have p2 := P0.out.cell2; have p3 := P0.out.cell3; have pl := P0.out.lt
            go_wp2_with fail
            refine (HA3.out _ K1.out.b).mono ?_
            rintro e v2 ⟨rfl, hb⟩
            replace P0 := Lib.hid (P0.out.below hb P0.out.lt); replace K1 := Lib.hid (K1.out.go hb); clear hb HA3 y0 y1 y2 y3 yl p0 p1 p2 p3 pl
            have y0 := K1.out.r.cell0; have y1 := K1.out.r.cell1; have y2 := K1.out.r.cell2; have y3 := K1.out.r.cell3; have yl := K1.out.r.lt
            have p0 := P0.out.cell0; have p1 := P0.out.cell1; have p2 := P0.out.cell2; have p3 := P0.out.cell3; have pl := P0.out.lt
            go_wp2_with fail
            refine (HA4.out _ K1.out.b).mono ?_
            rintro e v3 ⟨rfl, hb⟩
            replace P0 := Lib.hid (P0.out.below hb P0.out.lt); replace K1 := Lib.hid (K1.out.go hb); clear hb HA4 y0 y1 y2 y3 yl p0 p1 p2 p3 pl
            have y0 := K1.out.r.cell0; have y1 := K1.out.r.cell1; have y2 := K1.out.r.cell2; have y3 := K1.out.r.cell3; have yl := K1.out.r.lt
            have p0 := P0.out.cell0; have p1 := P0.out.cell1; have p2 := P0.out.cell2; have p3 := P0.out.cell3; have pl := P0.out.lt
            go_wp2_with fail
            go_ret
            exact ⟨by rw [HE.out]; rfl, K1.out.b⟩
        · rw [decide_eq_true c0] at HA1
          rw [decide_eq_true c1] at HA2
          rw [decide_eq_false c2] at HA3
          have HE := Lib.hid (decide_eq_true (HM.out (HU.out.2 (Or.inr (Or.inr (Or.inl c2))))))
          clear HM HNX HU c0 c1 c2
          have y0 := K1.out.r.cell0; have y1 := K1.out.r.cell1; have y2 := K1.out.r.cell2; have y3 := K1.out.r.cell3; have yl := K1.out.r.lt
          have p0 := P0.out.cell0; have p1 := P0.out.cell1; have p2 := P0.out.cell2; have p3 := P0.out.cell3; have pl := P0.out.lt
          go_wp2_with fail
          generalize World.alloc wr _ = w3 at *
          generalize wr.heap.size = pb at *
          clear x0 x1 x2 x3
          refine (HA1.out _ K1.out.b).mono ?_
          rintro e v0 ⟨rfl, hb⟩
          replace P0 := Lib.hid (P0.out.below hb P0.out.lt); replace K1 := Lib.hid (K1.out.go hb); clear hb HA1 y0 y1 y2 y3 yl p0 p1 p2 p3 pl
          have y0 := K1.out.r.cell0; have y1 := K1.out.r.cell1; have y2 := K1.out.r.cell2; have y3 := K1.out.r.cell3; have yl := K1.out.r.lt
          have p0 := P0.out.cell0; have p1 := P0.out.cell1; have p2 := P0.out.cell2; have p3 := P0.out.cell3; have pl := P0.out.lt
          go_wp2_with fail
          refine (HA2.out _ K1.out.b).mono ?_
          rintro e v1 ⟨rfl, hb⟩
          replace P0 := Lib.hid (P0.out.below hb P0.out.lt); replace K1 := Lib.hid (K1.out.go hb); clear hb HA2 y0 y1 y2 y3 yl p0 p1 p2 p3 pl
          have y0 := K1.out.r.cell0; have y1 := K1.out.r.cell1; have y2 := K1.out.r.cell2; have y3 := K1.out.r.cell3; have yl := K1.out.r.lt
          have p0 := P0.out.cell0; have p1 := P0.out.cell1; have p2 := P0.out.cell2; have p3 := P0.out.cell3; have pl := P0.out.lt
          go_wp2_with fail
          refine (HA3.out _ K1.out.b).mono ?_
          rintro e v2 ⟨rfl, hb⟩
          replace P0 := Lib.hid (P0.out.below hb P0.out.lt); replace K1 := Lib.hid (K1.out.go hb); clear hb HA3 y0 y1 y2 y3 yl p0 p1 p2 p3 pl
          have y0 := K1.out.r.cell0; have y1 := K1.out.r.cell1; have y2 := K1.out.r.cell2; have y3 := K1.out.r.cell3; have yl := K1.out.r.lt
          have p0 := P0.out.cell0; have p1 := P0.out.cell1; have p2 := P0.out.cell2; have p3 := P0.out.cell3; have pl := P0.out.lt
          go_wp2_with fail
          go_ret
          exact ⟨by rw [HE.out]; rfl, K1.out.b⟩
      · rw [decide_eq_true c0] at HA1
        rw [decide_eq_false c1] at HA2
        have HE := Lib.hid (decide_eq_true (HM.out (HU.out.2 (Or.inr (Or.inl c1)))))
        clear HM HNX HU c0 c1
        have y0 := K1.out.r.cell0; have y1 := K1.out.r.cell1; have y2 := K1.out.r.cell2; have y3 := K1.out.r.cell3; have yl := K1.out.r.lt
        have p0 := P0.out.cell0; have p1 := P0.out.cell1; have p2 := P0.out.cell2; have p3 := P0.out.cell3; have pl := P0.out.lt
        go_wp2_with fail
        generalize World.alloc wr _ = w3 at *
        generalize wr.heap.size = pb at *
        clear x0 x1 x2 x3
        refine (HA1.out _ K1.out.b).mono ?_
        rintro e v0 ⟨rfl, hb⟩
        replace P0 := Lib.hid (P0.out.below hb P0.out.lt); replace K1 := Lib.hid (K1.out.go hb); clear hb HA1 y0 y1 y2 y3 yl p0 p1 p2 p3 pl
        have y0 := K1.out.r.cell0; have y1 := K1.out.r.cell1; have y2 := K1.out.r.cell2; have y3 := K1.out.r.cell3; have yl := K1.out.r.lt
        have p0 := P0.out.cell0; have p1 := P0.out.cell1; have p2 := P0.out.cell2; have p3 := P0.out.cell3; have pl := P0.out.lt
        go_wp2_with fail
        refine (HA2.out _ K1.out.b).mono ?_
        rintro e v1 ⟨rfl, hb⟩
        replace P0 := Lib.hid (P0.out.below hb P0.out.lt); replace K1 := Lib.hid (K1.out.go hb); clear hb HA2 y0 y1 y2 y3 yl p0 p1 p2 p3 pl
        have y0 := K1.out.r.cell0; have y1 := K1.out.r.cell1; have y2 := K1.out.r.cell2; have y3 := K1.out.r.cell3; have yl := K1.out.r.lt
        have p0 := P0.out.cell0; have p1 := P0.out.cell1; have p2 := P0.out.cell2; have p3 := P0.out.cell3; have pl := P0.out.lt
        go_wp2_with fail
        go_ret
        exact ⟨by rw [HE.out]; rfl, K1.out.b⟩
    · rw [decide_eq_false c0] at HA1
      have HE := Lib.hid (decide_eq_true (HM.out (HU.out.2 (Or.inl c0))))
      clear HM HNX HU c0
      have y0 := K1.out.r.cell0; have y1 := K1.out.r.cell1; have y2 := K1.out.r.cell2; have y3 := K1.out.r.cell3; have yl := K1.out.r.lt
      have p0 := P0.out.cell0; have p1 := P0.out.cell1; have p2 := P0.out.cell2; have p3 := P0.out.cell3; have pl := P0.out.lt
      go_wp2_with fail
      generalize World.alloc wr _ = w3 at *
      generalize wr.heap.size = pb at *
      clear x0 x1 x2 x3
      refine (HA1.out _ K1.out.b).mono ?_
      rintro e v0 ⟨rfl, hb⟩
      replace P0 := Lib.hid (P0.out.below hb P0.out.lt); replace K1 := Lib.hid (K1.out.go hb); clear hb HA1 y0 y1 y2 y3 yl p0 p1 p2 p3 pl
      have y0 := K1.out.r.cell0; have y1 := K1.out.r.cell1; have y2 := K1.out.r.cell2; have y3 := K1.out.r.cell3; have yl := K1.out.r.lt
      have p0 := P0.out.cell0; have p1 := P0.out.cell1; have p2 := P0.out.cell2; have p3 := P0.out.cell3; have pl := P0.out.lt
      go_wp2_with fail
      go_ret
      exact ⟨by rw [HE.out]; rfl, K1.out.b⟩
  · obtain rfl : k = a.length := by omega
    have HE : Hid (decide (BadL r l z a) = false) := Lib.hid (decide_eq_false (fun ⟨q, hq, hb⟩ => by
      obtain ⟨j, hj, rfl⟩ := List.getElem_of_mem hq
      exact HT.out j hj hj hb))
    go_wp2_with fail
    go_ret
    exact ⟨by rw [HE.out]; rfl, K.out.b⟩
end Go.Proofs.YtkjblmfmaenllaaGreat
