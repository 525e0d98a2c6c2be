/-
  The laws of layer 11: at, few, the examples (small); from what is handed in to what the walks ask: a point.
-/
import Derived.Test.YtkjblmfmaenllaaYi
import Derived.Test.YtkjblmfmaenllaaBs
import Derived.Test.YtkjblmfmaenllaaAq
set_option linter.unusedVariables false
set_option maxRecDepth 100000
namespace Go.Proofs.Ytkjblmfmaenllaa
open Go.RowKit Go.ChangeShapes Go.WideShapes Go.ChangeAt Go.Joins Go.Deep

theorem cellsP3 : Try.prog.cellsOf 24 = 3 := by kernel_rfl
section
variable {H : Type} {enc : TypeId × Value → H} {w : World} {held : Bool}
theorem open_p3 {v : Value} {d : DataW H} {p : List MemPlace} {r : Reach} {b0 : Nat} (hv : Value.okWide Try.prog w r b0 24 v) (h : DataW.Trod enc Try.prog w 0 (fun _ => true) held 24 v d p) :
    ∃ x : V3, v = .agg #[.int .i64 x.x, .int .i64 x.y, .int .i64 x.z] ∧ In64 x.x ∧ In64 x.y ∧ In64 x.z := by
  obtain ⟨v0, v1, v2, y0, y1, y2, n, rfl, _, _, h0, h1, h2⟩ := open_agg3 Try.underlying24 (by kernel_rfl) cellsP3 hv h
  obtain ⟨A, hA, _, wA⟩ := DataW.trod_int Try.underlying3 h0
  obtain ⟨B, hB, _, wB⟩ := DataW.trod_int Try.underlying3 h1
  obtain ⟨C, hC, _, wC⟩ := DataW.trod_int Try.underlying3 h2
  obtain rfl : v0 = .int .i64 A := by simpa using hA
  obtain rfl : v1 = .int .i64 B := by simpa using hB
  obtain rfl : v2 = .int .i64 C := by simpa using hC
  exact ⟨⟨A, B, C⟩, rfl, bounds_i64 wA, bounds_i64 wB, bounds_i64 wC⟩
end
def P3Is (x y z : Int) (w : World) (e : Ending) (w' : World) : Prop := e = .returned (.agg #[.int .i64 x, .int .i64 y, .int .i64 z]) ∧ Below w.heap.size w w'
set_option maxHeartbeats 4000000 in
theorem jat_any (x y z : Int) (w : World) : Calls Try.prog 16 #[.int .i64 x, .int .i64 y, .int .i64 z] w (P3Is x y z w) := by
  go_enter Try.func16, Try.ntmps16
  go_wp2_with fail
  refine bodyPost_ret (results_cell_row rfl _ _ w.heap.size 24 #[.int .i64 x, .int .i64 y, .int .i64 z] (0, 0) _ rfl ?_ Try.underlying24 rfl (by kernel_rfl)) rfl ?_
  · exact heap_alloc_new w _
  · exact ⟨rfl, (Below.refl _ _).alloc (Nat.le_refl _) _⟩
/-! ### few -/
def Few11 (S : List Sl) : Prop := S.length ≤ 10 ∧ ∀ s ∈ S, s.ar.length ≤ 10
noncomputable def few11 (S : List Sl) : Bool := @decide (Few11 S) (Classical.propDecidable _)
theorem few11_iff (S : List Sl) : few11 S = true ↔ Few11 S := by unfold few11; simp
theorem few11_yes {S : List Sl} (h : Few11 S) : few11 S = true := (few11_iff S).2 h
theorem few11_no {S : List Sl} (h : ¬ Few11 S) : few11 S = false := by rw [← Bool.not_eq_true, few11_iff]; exact h
theorem slrow0_below {w w' : World} {A : Option Addr} {S : List Sl} (h : SlRow0 w A S) (hb : Below w.heap.size w w') : SlRow0 w' A S := fun h0 => by
  obtain ⟨b, off, rfl, hlt, hc⟩ := h h0
  refine ⟨b, off, rfl, Nat.lt_of_lt_of_le hlt hb.size, fun j hj => ?_⟩
  obtain ⟨x0, x1, Aj, cj, x2, x3, x4, x5⟩ := hc j hj
  have wc := fun o => hb.cell (p := ⟨b, o, none⟩) hlt
  exact ⟨(wc _).trans x0, (wc _).trans x1, Aj, cj, (wc _).trans x2, x3.below hb, x4, x5⟩
theorem few11_in {w : World} {A : Option Addr} {cap : Nat} {S : List Sl} (h : SlRow0 w A S) (hc : S.length ≤ cap) (hs : cap ≤ 9223372036854775807) (hf : Few11 S) : SIn w A cap S := by
  refine ⟨fun h0 => ?_, by have := hf.1; omega, hc, hs⟩
  obtain ⟨b, off, e, hlt, hcc⟩ := h h0
  refine ⟨b, off, e, hlt, fun j hj => ?_⟩
  obtain ⟨x0, x1, Aj, cj, x2, x3, x4, x5⟩ := hcc j hj
  have := hf.2 _ (List.getElem_mem hj)
  exact ⟨x0, x1, Aj, cj, x2, ⟨x3, by omega, x4, x5⟩⟩
set_option maxHeartbeats 16000000 in
theorem jfew_any (A : Option Addr) (cap : Nat) (S : List Sl) (w : World) (hl : SlRow0 w A S) (hlen : S.length ≤ 9223372036854775807) :
    Calls Try.prog 10 #[.slice A S.length cap] w (BlIs (few11 S) w) := by
  have HL := Lib.hid hl; clear hl
  have HB0 := Lib.hid (Below.refl w.heap.size w)
  by_cases h10 : S.length ≤ 10
  · have i9 : ¬ (10 : Int) < (S.length : Int) := by omega
    go_enter Try.func10, Try.ntmps10
    go_wp2
    go_loopw [3] (fun i wr => ∃ (k : Nat), k ≤ S.length ∧ i = .int .i64 k ∧ Hid (Below w.heap.size w wr) ∧ Hid (∀ j (h : j < S.length), j < k → S[j].ar.length ≤ 10)) (fun i _ => S.length - (intOf i).toNat)
    case atStart => exact ⟨0, Nat.zero_le _, rfl, HB0, Lib.hid (fun j h hj => absurd hj (Nat.not_lt_zero _))⟩
    case round =>
      clear HB0
      obtain ⟨k, hk, rfl, HB, HT⟩ := hrel
      by_cases hlt : k < S.length
      · obtain ⟨ba, oa, rfl, hba, hva⟩ := HL.out (by omega)
        obtain ⟨x0, x1, Aj, cj, x2, _, _, _⟩ := hva k hlt
        obtain ⟨u, hu⟩ : ∃ u, u = S[k] := ⟨_, rfl⟩
        rw [← hu] at x0 x1 x2
        have BAD : Hid (¬ u.ar.length ≤ 10 → few11 S = false) := Lib.hid (fun h => few11_no (fun ⟨_, h2⟩ => h (by rw [hu]; exact h2 _ (List.getElem_mem hlt))))
        have NX : Hid (u.ar.length ≤ 10 → ∀ j (h : j < S.length), j < k + 1 → S[j].ar.length ≤ 10) := Lib.hid (fun hg j h hj => by
          by_cases e : j < k
          · exact HT.out j h e
          · obtain rfl : j = k := by omega
            rw [← hu]; exact hg)
        have i0 : (0 : Int) ≤ (k : Int) := by omega
        have i1 : (k : Int) < (S.length : Int) := by omega
        clear hva hu
        have wc := fun o => HB.out.cell (p := ⟨ba, o, none⟩) hba
        have x0 := (wc _).trans x0; have x1 := (wc _).trans x1; have x2 := (wc _).trans x2
        clear wc
        by_cases c0 : u.ar.length ≤ 10
        · have HN := Lib.hid (NX.out c0); clear BAD NX
          have c1 : ¬ (10 : Int) < (u.ar.length : Int) := by omega
          go_wp2
          go_roundw
          case rel => exact ⟨k + 1, by omega, by go_num, HB, HN⟩
          case measure => simp [intOf]; omega
        · have HQ := Lib.hid (BAD.out c0); clear BAD NX
          have c1 : (10 : Int) < (u.ar.length : Int) := by omega
          rw [HQ.out]
          go_wp2
          go_ret
          exact ⟨rfl, HB.out⟩
      · obtain rfl : k = S.length := by omega
        have hall : ∀ s ∈ S, s.ar.length ≤ 10 := fun r hr => by
          obtain ⟨j, hj, rfl⟩ := List.mem_iff_getElem.1 hr
          exact HT.out j hj hj
        have HQ : Hid (few11 S = true) := Lib.hid (few11_yes ⟨h10, hall⟩)
        clear hall
        go_wp2
        go_ret
        exact ⟨by rw [HQ.out]; rfl, HB.out⟩
  · have i9 : (10 : Int) < (S.length : Int) := by omega
    rw [few11_no (fun h => h10 h.1)]
    go_enter Try.func10, Try.ntmps10
    go_wp2
    go_ret
    exact ⟨rfl, HB0.out⟩
/-! ### the examples -/
def decSl11 : DecidableEq Sl := fun a b => decidable_of_iff (a.z0 = b.z0 ∧ a.z1 = b.z1 ∧ a.ar = b.ar) ⟨fun h => Sl.eq h.1 h.2.1 h.2.2, fun h => by subst h; exact ⟨rfl, rfl, rfl⟩⟩
def l11 : List Bx := [⟨⟨2, 0, 3, 1⟩, 0, 1⟩]
def S11 : List Sl := [⟨0, 1, [⟨2, 0, 3, 1⟩]⟩]
theorem sol11 : solB l11 = S11 := by
  have := @of_decide_eq_true (solB l11 = S11) (@List.hasDecEq _ decSl11 _ _) (by decide +kernel)
  exact this
theorem ok11 : ∀ b ∈ l11, BOk b := by decide
theorem solP11 : SolP S11 := by rw [← sol11]; exact solB_small ok11 (by decide)
theorem of11 : ofS l11 = (S11, 0) := by rw [ofS_small ok11 (by decide), sol11]
def Of11 (n : Nat) (S : List Sl) (w : World) (e : Ending) (w' : World) : Prop := ∃ A c, e = .returned (.tuple #[.slice A n c, .int .i64 0]) ∧ SIn w' A c S ∧ Below w.heap.size w w'
def W11 (w : World) : World := w.alloc (.cells #[.int .i64 2, .int .i64 0, .int .i64 3, .int .i64 1, .int .i64 0, .int .i64 1] 37)
theorem of_small (w : World) (n : Nat) (hn : n = S11.length) : Calls Try.prog 25 #[.slice (some ⟨w.heap.size, 0, none⟩) 1 1] (W11 w) (Of11 n S11 (W11 w)) := by
  have hg := heap_alloc_new w (.cells #[.int .i64 2, .int .i64 0, .int .i64 3, .int .i64 1, .int .i64 0, .int .i64 1] 37)
  have hrow : BxRow (W11 w) (some ⟨w.heap.size, 0, none⟩) l11 := fun _ => by
    refine ⟨w.heap.size, 0, rfl, (Array.getElem?_eq_some_iff.1 hg).1, fun j hj => ?_⟩
    obtain rfl : j = 0 := by simp [l11] at hj; omega
    refine ⟨?_, ?_, ?_, ?_, ?_, ?_⟩ <;> (unfold W11; rw [Lib.cell_of_heap hg]; rfl)
  have h := dof_any (some ⟨w.heap.size, 0, none⟩) 1 l11 (W11 w) hrow (by decide)
  rw [of11] at h
  refine Calls.mono h ?_
  rintro e w' ⟨A, c, rfl, hs, hb⟩
  subst hn
  exact ⟨A, c, rfl, hs, hb⟩
theorem blk_nd (A : Option Addr) (c n : Nat) (S : List Sl) (hn : n = S.length) (x y z x' y' z' : Int) (w : World) (h : SIn w A c S) : Calls Try.prog 11 #[.slice A n c, .agg #[.int .i64 x, .int .i64 y, .int .i64 z], .agg #[.int .i64 x', .int .i64 y', .int .i64 z']] w (BlIs (bkB S ⟨x, y, z⟩ ⟨x', y', z'⟩) w) := by
  subst hn; exact sblocked_any A c S ⟨x, y, z⟩ ⟨x', y', z'⟩ w h
theorem ray_nd (A : Option Addr) (c n : Nat) (S : List Sl) (hn : n = S.length) (x y z x' y' z' : Int) (w : World) (h : SIn w A c S) : Calls Try.prog 13 #[.slice A n c, .agg #[.int .i64 x, .int .i64 y, .int .i64 z], .agg #[.int .i64 x', .int .i64 y', .int .i64 z']] w (BlIs (ryB S ⟨x, y, z⟩ ⟨x', y', z'⟩) w) := by
  subst hn; exact sray_any A c S ⟨x, y, z⟩ ⟨x', y', z'⟩ w h
theorem bk11 (p q : V3) : bkB S11 p q = (decide (PtOk p) && (decide (PtOk q) && meetB iSeg p (q.sub p) (boxesS S11))) := by unfold bkB; rw [solPB_yes solP11, Bool.true_and]
theorem ry11 (p q : V3) : ryB S11 p q = (decide (PtOk p) && (decide (DiOk q) && meetB iRay p q (boxesS S11))) := by unfold ryB; rw [solPB_yes solP11, Bool.true_and]
theorem ex11_0 : bkB S11 ⟨0, 0, 0⟩ ⟨5, 0, 0⟩ = true := by rw [bk11]; decide +kernel
theorem ex11_1 : bkB S11 ⟨0, 0, 0⟩ ⟨2, 0, 0⟩ = false := by rw [bk11]; decide +kernel
theorem ex11_2 : bkB S11 ⟨0, 1, 0⟩ ⟨5, 1, 0⟩ = false := by rw [bk11]; decide +kernel
theorem ex11_3 : bkB S11 ⟨0, 0, 1⟩ ⟨5, 0, 1⟩ = false := by rw [bk11]; decide +kernel
theorem ex11_4 : bkB S11 ⟨2, 0, 0⟩ ⟨2, 0, 0⟩ = true := by rw [bk11]; decide +kernel
theorem ex11_5 : bkB S11 ⟨3, 0, 0⟩ ⟨3, 5, 0⟩ = false := by rw [bk11]; decide +kernel
theorem ex11_6 : ryB S11 ⟨0, 0, 0⟩ ⟨1, 0, 0⟩ = true := by rw [ry11]; decide +kernel
theorem ex11_7 : ryB S11 ⟨0, 0, 0⟩ ⟨-1, 0, 0⟩ = false := by rw [ry11]; decide +kernel
theorem ex11_8 : ryB S11 ⟨0, 0, 0⟩ ⟨4, 1, 1⟩ = true := by rw [ry11]; decide +kernel
set_option maxHeartbeats 16000000 in
theorem jsmall_any (w : World) : Calls Try.prog 9 #[] w (BlIs true w) := by
  have HA := Lib.hid (fun x y z w' => jat_any x y z w')
  obtain ⟨n, hn⟩ : ∃ n, n = S11.length := ⟨_, rfl⟩
  have HO := Lib.hid (of_small w n hn)
  have H0 : Hid (∀ A c w', SIn w' A c S11 → Calls Try.prog 11 #[.slice A n c, .agg #[.int .i64 0, .int .i64 0, .int .i64 0], .agg #[.int .i64 5, .int .i64 0, .int .i64 0]] w' (BlIs true w')) := Lib.hid (fun A c w' h => by rw [← ex11_0]; exact blk_nd A c n S11 hn _ _ _ _ _ _ w' h)
  have H1 : Hid (∀ A c w', SIn w' A c S11 → Calls Try.prog 11 #[.slice A n c, .agg #[.int .i64 0, .int .i64 0, .int .i64 0], .agg #[.int .i64 2, .int .i64 0, .int .i64 0]] w' (BlIs false w')) := Lib.hid (fun A c w' h => by rw [← ex11_1]; exact blk_nd A c n S11 hn _ _ _ _ _ _ w' h)
  have H2 : Hid (∀ A c w', SIn w' A c S11 → Calls Try.prog 11 #[.slice A n c, .agg #[.int .i64 0, .int .i64 1, .int .i64 0], .agg #[.int .i64 5, .int .i64 1, .int .i64 0]] w' (BlIs false w')) := Lib.hid (fun A c w' h => by rw [← ex11_2]; exact blk_nd A c n S11 hn _ _ _ _ _ _ w' h)
  have H3 : Hid (∀ A c w', SIn w' A c S11 → Calls Try.prog 11 #[.slice A n c, .agg #[.int .i64 0, .int .i64 0, .int .i64 1], .agg #[.int .i64 5, .int .i64 0, .int .i64 1]] w' (BlIs false w')) := Lib.hid (fun A c w' h => by rw [← ex11_3]; exact blk_nd A c n S11 hn _ _ _ _ _ _ w' h)
  have H4 : Hid (∀ A c w', SIn w' A c S11 → Calls Try.prog 11 #[.slice A n c, .agg #[.int .i64 2, .int .i64 0, .int .i64 0], .agg #[.int .i64 2, .int .i64 0, .int .i64 0]] w' (BlIs true w')) := Lib.hid (fun A c w' h => by rw [← ex11_4]; exact blk_nd A c n S11 hn _ _ _ _ _ _ w' h)
  have H5 : Hid (∀ A c w', SIn w' A c S11 → Calls Try.prog 11 #[.slice A n c, .agg #[.int .i64 3, .int .i64 0, .int .i64 0], .agg #[.int .i64 3, .int .i64 5, .int .i64 0]] w' (BlIs false w')) := Lib.hid (fun A c w' h => by rw [← ex11_5]; exact blk_nd A c n S11 hn _ _ _ _ _ _ w' h)
  have H6 : Hid (∀ A c w', SIn w' A c S11 → Calls Try.prog 13 #[.slice A n c, .agg #[.int .i64 0, .int .i64 0, .int .i64 0], .agg #[.int .i64 1, .int .i64 0, .int .i64 0]] w' (BlIs true w')) := Lib.hid (fun A c w' h => by rw [← ex11_6]; exact ray_nd A c n S11 hn _ _ _ _ _ _ w' h)
  have H7 : Hid (∀ A c w', SIn w' A c S11 → Calls Try.prog 13 #[.slice A n c, .agg #[.int .i64 0, .int .i64 0, .int .i64 0], .agg #[.int .i64 (-1), .int .i64 0, .int .i64 0]] w' (BlIs false w')) := Lib.hid (fun A c w' h => by rw [← ex11_7]; exact ray_nd A c n S11 hn _ _ _ _ _ _ w' h)
  have H8 : Hid (∀ A c w', SIn w' A c S11 → Calls Try.prog 13 #[.slice A n c, .agg #[.int .i64 0, .int .i64 0, .int .i64 0], .agg #[.int .i64 4, .int .i64 1, .int .i64 1]] w' (BlIs true w')) := Lib.hid (fun A c w' h => by rw [← ex11_8]; exact ray_nd A c n S11 hn _ _ _ _ _ _ w' h)
  have HB0 : Hid (Below w.heap.size w (W11 w)) := Lib.hid ((Below.refl _ _).alloc (Nat.le_refl _) _)
  clear hn
  go_enter Try.func9, Try.ntmps9
  go_wp2_with fail
  refine HO.out.mono ?_
  rintro e w0 ⟨A, c, rfl, hs, hb⟩
  have S0 := Lib.hid hs
  have B0 := Lib.hid (HB0.out.trans (hb.mono HB0.out.size))
  clear hs hb HO HB0
  go_wp2_with fail
  with_reducible refine Calls.mono (HA.out _ _ _ _) ?_
  rintro e w1 ⟨rfl, hb⟩
  have S1 := Lib.hid (S0.out.below hb)
  have B1 := Lib.hid (B0.out.trans (hb.mono B0.out.size))
  clear hb S0 B0
  go_wp2_with fail
  with_reducible refine Calls.mono (HA.out _ _ _ _) ?_
  rintro e w2 ⟨rfl, hb⟩
  have S2 := Lib.hid (S1.out.below hb)
  have B2 := Lib.hid (B1.out.trans (hb.mono B1.out.size))
  clear hb S1 B1
  have SX := S2.out
  go_wp2_with fail
  with_reducible refine Calls.mono (H0.out A c _ SX) ?_
  rintro e w3 ⟨rfl, hb⟩
  have S3 := Lib.hid (S2.out.below hb)
  have B3 := Lib.hid (B2.out.trans (hb.mono B2.out.size))
  clear hb S2 B2
  clear SX H0
  go_wp2_with fail
  with_reducible refine Calls.mono (HA.out _ _ _ _) ?_
  rintro e w4 ⟨rfl, hb⟩
  have S4 := Lib.hid (S3.out.below hb)
  have B4 := Lib.hid (B3.out.trans (hb.mono B3.out.size))
  clear hb S3 B3
  go_wp2_with fail
  with_reducible refine Calls.mono (HA.out _ _ _ _) ?_
  rintro e w5 ⟨rfl, hb⟩
  have S5 := Lib.hid (S4.out.below hb)
  have B5 := Lib.hid (B4.out.trans (hb.mono B4.out.size))
  clear hb S4 B4
  have SX := S5.out
  go_wp2_with fail
  with_reducible refine Calls.mono (H1.out A c _ SX) ?_
  rintro e w6 ⟨rfl, hb⟩
  have S6 := Lib.hid (S5.out.below hb)
  have B6 := Lib.hid (B5.out.trans (hb.mono B5.out.size))
  clear hb S5 B5
  clear SX H1
  go_wp2_with fail
  with_reducible refine Calls.mono (HA.out _ _ _ _) ?_
  rintro e w7 ⟨rfl, hb⟩
  have S7 := Lib.hid (S6.out.below hb)
  have B7 := Lib.hid (B6.out.trans (hb.mono B6.out.size))
  clear hb S6 B6
  go_wp2_with fail
  with_reducible refine Calls.mono (HA.out _ _ _ _) ?_
  rintro e w8 ⟨rfl, hb⟩
  have S8 := Lib.hid (S7.out.below hb)
  have B8 := Lib.hid (B7.out.trans (hb.mono B7.out.size))
  clear hb S7 B7
  have SX := S8.out
  go_wp2_with fail
  with_reducible refine Calls.mono (H2.out A c _ SX) ?_
  rintro e w9 ⟨rfl, hb⟩
  have S9 := Lib.hid (S8.out.below hb)
  have B9 := Lib.hid (B8.out.trans (hb.mono B8.out.size))
  clear hb S8 B8
  clear SX H2
  go_wp2_with fail
  with_reducible refine Calls.mono (HA.out _ _ _ _) ?_
  rintro e w10 ⟨rfl, hb⟩
  have S10 := Lib.hid (S9.out.below hb)
  have B10 := Lib.hid (B9.out.trans (hb.mono B9.out.size))
  clear hb S9 B9
  go_wp2_with fail
  with_reducible refine Calls.mono (HA.out _ _ _ _) ?_
  rintro e w11 ⟨rfl, hb⟩
  have S11 := Lib.hid (S10.out.below hb)
  have B11 := Lib.hid (B10.out.trans (hb.mono B10.out.size))
  clear hb S10 B10
  have SX := S11.out
  go_wp2_with fail
  with_reducible refine Calls.mono (H3.out A c _ SX) ?_
  rintro e w12 ⟨rfl, hb⟩
  have S12 := Lib.hid (S11.out.below hb)
  have B12 := Lib.hid (B11.out.trans (hb.mono B11.out.size))
  clear hb S11 B11
  clear SX H3
  go_wp2_with fail
  with_reducible refine Calls.mono (HA.out _ _ _ _) ?_
  rintro e w13 ⟨rfl, hb⟩
  have S13 := Lib.hid (S12.out.below hb)
  have B13 := Lib.hid (B12.out.trans (hb.mono B12.out.size))
  clear hb S12 B12
  go_wp2_with fail
  with_reducible refine Calls.mono (HA.out _ _ _ _) ?_
  rintro e w14 ⟨rfl, hb⟩
  have S14 := Lib.hid (S13.out.below hb)
  have B14 := Lib.hid (B13.out.trans (hb.mono B13.out.size))
  clear hb S13 B13
  have SX := S14.out
  go_wp2_with fail
  with_reducible refine Calls.mono (H4.out A c _ SX) ?_
  rintro e w15 ⟨rfl, hb⟩
  have S15 := Lib.hid (S14.out.below hb)
  have B15 := Lib.hid (B14.out.trans (hb.mono B14.out.size))
  clear hb S14 B14
  clear SX H4
  go_wp2_with fail
  with_reducible refine Calls.mono (HA.out _ _ _ _) ?_
  rintro e w16 ⟨rfl, hb⟩
  have S16 := Lib.hid (S15.out.below hb)
  have B16 := Lib.hid (B15.out.trans (hb.mono B15.out.size))
  clear hb S15 B15
  go_wp2_with fail
  with_reducible refine Calls.mono (HA.out _ _ _ _) ?_
  rintro e w17 ⟨rfl, hb⟩
  have S17 := Lib.hid (S16.out.below hb)
  have B17 := Lib.hid (B16.out.trans (hb.mono B16.out.size))
  clear hb S16 B16
  have SX := S17.out
  go_wp2_with fail
  with_reducible refine Calls.mono (H5.out A c _ SX) ?_
  rintro e w18 ⟨rfl, hb⟩
  have S18 := Lib.hid (S17.out.below hb)
  have B18 := Lib.hid (B17.out.trans (hb.mono B17.out.size))
  clear hb S17 B17
  clear SX H5
  go_wp2_with fail
  with_reducible refine Calls.mono (HA.out _ _ _ _) ?_
  rintro e w19 ⟨rfl, hb⟩
  have S19 := Lib.hid (S18.out.below hb)
  have B19 := Lib.hid (B18.out.trans (hb.mono B18.out.size))
  clear hb S18 B18
  go_wp2_with fail
  with_reducible refine Calls.mono (HA.out _ _ _ _) ?_
  rintro e w20 ⟨rfl, hb⟩
  have S20 := Lib.hid (S19.out.below hb)
  have B20 := Lib.hid (B19.out.trans (hb.mono B19.out.size))
  clear hb S19 B19
  have SX := S20.out
  go_wp2_with fail
  with_reducible refine Calls.mono (H6.out A c _ SX) ?_
  rintro e w21 ⟨rfl, hb⟩
  have S21 := Lib.hid (S20.out.below hb)
  have B21 := Lib.hid (B20.out.trans (hb.mono B20.out.size))
  clear hb S20 B20
  clear SX H6
  go_wp2_with fail
  with_reducible refine Calls.mono (HA.out _ _ _ _) ?_
  rintro e w22 ⟨rfl, hb⟩
  have S22 := Lib.hid (S21.out.below hb)
  have B22 := Lib.hid (B21.out.trans (hb.mono B21.out.size))
  clear hb S21 B21
  go_wp2_with fail
  with_reducible refine Calls.mono (HA.out _ _ _ _) ?_
  rintro e w23 ⟨rfl, hb⟩
  have S23 := Lib.hid (S22.out.below hb)
  have B23 := Lib.hid (B22.out.trans (hb.mono B22.out.size))
  clear hb S22 B22
  have SX := S23.out
  go_wp2_with fail
  with_reducible refine Calls.mono (H7.out A c _ SX) ?_
  rintro e w24 ⟨rfl, hb⟩
  have S24 := Lib.hid (S23.out.below hb)
  have B24 := Lib.hid (B23.out.trans (hb.mono B23.out.size))
  clear hb S23 B23
  clear SX H7
  go_wp2_with fail
  with_reducible refine Calls.mono (HA.out _ _ _ _) ?_
  rintro e w25 ⟨rfl, hb⟩
  have S25 := Lib.hid (S24.out.below hb)
  have B25 := Lib.hid (B24.out.trans (hb.mono B24.out.size))
  clear hb S24 B24
  go_wp2_with fail
  with_reducible refine Calls.mono (HA.out _ _ _ _) ?_
  rintro e w26 ⟨rfl, hb⟩
  have S26 := Lib.hid (S25.out.below hb)
  have B26 := Lib.hid (B25.out.trans (hb.mono B25.out.size))
  clear hb S25 B25
  have SX := S26.out
  go_wp2_with fail
  with_reducible refine Calls.mono (H8.out A c _ SX) ?_
  rintro e w27 ⟨rfl, hb⟩
  have S27 := Lib.hid (S26.out.below hb)
  have B27 := Lib.hid (B26.out.trans (hb.mono B26.out.size))
  clear hb S26 B26
  clear SX H8
  go_wp2_with fail
  go_ret
  exact ⟨rfl, B27.out⟩
end Go.Proofs.Ytkjblmfmaenllaa
