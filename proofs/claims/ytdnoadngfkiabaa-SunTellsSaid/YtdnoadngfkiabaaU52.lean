/-
  SunTells: the walk of the law.
-/
import Derived.Test.YtdnoadngfkiabaaU51
set_option linter.unusedVariables false
set_option maxRecDepth 100000
namespace Go.Proofs.Ytdnoadngfkiabaa
open Go.RowKit

theorem ssrow_two {w : World} {b : Nat} {A1 : Option Addr} {c1 n1 : Nat} {S1 : List Sl} {A2 : Option Addr} {c2 n2 : Nat} {S2 : List Sl} (hn1 : n1 = S1.length) (hn2 : n2 = S2.length) (h : w.heap[b]? = some (.cells #[.slice A1 n1 c1, .slice A2 n2 c2] 23 (0, 0))) (hs1 : SIn w A1 c1 S1) (hs2 : SIn w A2 c2 S2) : SsRow w (some ⟨b, 0, none⟩) [S1, S2] := fun _ => by
  subst hn1; subst hn2
  refine ⟨b, 0, rfl, (Array.getElem?_eq_some_iff.1 h).1, fun j hj => ?_⟩
  have : j = 0 ∨ j = 1 := by simp at hj; omega
  rcases this with rfl | rfl
  · exact ⟨A1, c1, by rw [Lib.cell_of_heap h]; rfl, hs1⟩
  · exact ⟨A2, c2, by rw [Lib.cell_of_heap h]; rfl, hs2⟩

set_option maxHeartbeats 40000000 in
theorem tells12_walk (A : Option Addr) (cap : Nat) (T : List V3) (B : Option Addr) (cb : Nat) (S : List Sl) (B2 : Option Addr) (cb2 : Nat) (S2 : List Sl) (p : V3) (m : Int) (w : World) (h1 : TbRow w A T) (hT : T.length ≤ 9223372036854775807) (h2 : SlRow0 w B S) (hc2 : S.length ≤ cb) (hs2 : cb ≤ 9223372036854775807) (h3 : SlRow0 w B2 S2) (hc3 : S2.length ≤ cb2) (hs3 : cb2 ≤ 9223372036854775807) :
    Calls Try.prog 3 #[.slice A T.length cap, .slice B S.length cb, .slice B2 S2.length cb2, .agg #[.int .i64 p.x, .int .i64 p.y, .int .i64 p.z], .int .i64 m] w (BlIs true w) := by
  have HSM := Lib.hid (fun w' => ismall_any w')
  have HF1 := Lib.hid (fun w' (hb : Below w.heap.size w w') => ifew_any B cb S w' (slrow0_below h2 hb) (by omega))
  have HF2 := Lib.hid (fun w' (hb : Below w.heap.size w w') => ifew_any B2 cb2 S2 w' (slrow0_below h3 hb) (by omega))
  obtain ⟨w0, hw0⟩ : ∃ w0, w0 = w.alloc (.cells #[.int .i64 p.x, .int .i64 p.y, .int .i64 p.z] 25) := ⟨_, rfl⟩
  have HB0 : Hid (Below w.heap.size w w0) := Lib.hid (by rw [hw0]; exact (Below.refl _ _).alloc (Nat.le_refl _) _)
  have HP0 : Hid (P3At w0 w.heap.size p) := Lib.hid (by rw [hw0]; exact P3At.new w p)
  have HW0 := Lib.hid hw0
  clear hw0
  have HIN1 := Lib.hid (fun hf => few12_in h2 hc2 hs2 hf)
  have HIN2 := Lib.hid (fun hf => few12_in h3 hc3 hs3 hf)
  have H1 := Lib.hid h1
  clear h1 h2 h3 hc2 hs2 hc3 hs3
  go_enter Try.func3, Try.ntmps3
  go_upto_region 1 with fail
  rw [← HW0.out]; clear HW0
  obtain ⟨g, hg⟩ : ∃ g, g = w.heap.size := ⟨_, rfl⟩
  rw [← hg] at HP0
  simp only [← hg]
  clear hg
  go_wp2_with fail
  with_reducible refine Calls.mono (HSM.out _) ?_
  rintro e w1 ⟨rfl, hb⟩
  have HB1 := Lib.hid (HB0.out.trans (hb.mono HB0.out.size))
  have HP1 := Lib.hid (HP0.out.go hb)
  clear hb HB0 HP0 HSM
  by_cases hlen : 30 < T.length
  · have s1 : (30 : Int) < (T.length : Int) := by omega
    clear HF1 HF2 HIN1 HIN2 H1 HP1 hlen
    go_wp2_with fail
    go_ret
    exact ⟨rfl, HB1.out⟩
  · have s1 : ¬ (30 : Int) < (T.length : Int) := by omega
    by_cases hf1 : Few12 S
    case neg =>
      rw [few12_no hf1] at HF1
      clear HF2 HIN1 HIN2 H1 HP1 hlen hf1
      go_wp2_with fail
      with_reducible refine Calls.mono (HF1.out _ HB1.out) ?_
      rintro e w2 ⟨rfl, hb⟩
      have HB2 := Lib.hid (HB1.out.trans (hb.mono HB1.out.size))
      clear hb HB1 HF1
      go_wp2_with fail
      go_ret
      exact ⟨rfl, HB2.out⟩
    case pos =>
      rw [few12_yes hf1] at HF1
      have HS1 := Lib.hid (HIN1.out hf1)
      clear HIN1 hf1
      go_wp2_with fail
      with_reducible refine Calls.mono (HF1.out _ HB1.out) ?_
      rintro e w2 ⟨rfl, hb⟩
      have HB2 := Lib.hid (HB1.out.trans (hb.mono HB1.out.size))
      have HP2 := Lib.hid (HP1.out.go hb)
      clear hb HB1 HP1 HF1
      by_cases hf2 : Few12 S2
      case neg =>
        rw [few12_no hf2] at HF2
        clear HIN2 H1 HP2 hlen hf2 HS1
        go_wp2_with fail
        with_reducible refine Calls.mono (HF2.out _ HB2.out) ?_
        rintro e w3 ⟨rfl, hb⟩
        have HB3 := Lib.hid (HB2.out.trans (hb.mono HB2.out.size))
        clear hb HB2 HF2
        go_wp2_with fail
        go_ret
        exact ⟨rfl, HB3.out⟩
      case pos =>
        rw [few12_yes hf2] at HF2
        have HS2 := Lib.hid (HIN2.out hf2)
        clear HIN2 hf2
        go_wp2_with fail
        with_reducible refine Calls.mono (HF2.out _ HB2.out) ?_
        rintro e w3 ⟨rfl, hb⟩
        have HB3 := Lib.hid (HB2.out.trans (hb.mono HB2.out.size))
        have HP3 := Lib.hid (HP2.out.go hb)
        clear hb HB2 HP2 HF2
        obtain ⟨n1, hn1⟩ : ∃ n1, n1 = S.length := ⟨_, rfl⟩
        obtain ⟨n2, hn2⟩ : ∃ n2, n2 = S2.length := ⟨_, rfl⟩
        simp only [← hn1, ← hn2]
        have HN1 := Lib.hid hn1; have HN2 := Lib.hid hn2
        obtain ⟨w4, hw4⟩ : ∃ w4, w4 = w3.alloc (.cells #[.slice B n1 cb, .slice B2 n2 cb2] 23) := ⟨_, rfl⟩
        have hb : Below w3.heap.size w3 w4 := by rw [hw4]; exact (Below.refl _ _).alloc (Nat.le_refl _) _
        have HB4 := Lib.hid (HB3.out.trans (hb.mono HB3.out.size))
        have HP4 := Lib.hid (HP3.out.go hb)
        have HROW : Hid (SsRow w4 (some ⟨w3.heap.size, 0, none⟩) [S, S2]) := Lib.hid (ssrow_two hn1 hn2 (by rw [hw4]; exact heap_alloc_new w3 _) (HS1.out.below HB4.out) (HS2.out.below HB4.out))
        have HW4 := Lib.hid hw4
        clear hw4 hb HB3 HP3 hn1 hn2
        go_upto_region 5 with fail
        rw [← HW4.out]; clear HW4
        generalize w3.heap.size = gl at *
        have C0 := Lib.hid (fun w' (hb : Below w4.heap.size w4 w') => g2right_any A cap T w' (H1.out.below (HB4.out.trans (hb.mono HB4.out.size))) hT)
        have C1 := Lib.hid (fun w' (hb : Below w4.heap.size w4 w') => hright_any A cap T w' (H1.out.below (HB4.out.trans (hb.mono HB4.out.size))) hT)
        have C2 := Lib.hid (fun w' (hb : Below w4.heap.size w4 w') => g2mask_any A cap T B cb S p w' (H1.out.below (HB4.out.trans (hb.mono HB4.out.size))) hT (HS1.out.below (HB4.out.trans (hb.mono HB4.out.size))))
        have C3 := Lib.hid (fun w' (hb : Below w4.heap.size w4 w') => hMask_any A cap T B cb S p w' (H1.out.below (HB4.out.trans (hb.mono HB4.out.size))) hT (HS1.out.below (HB4.out.trans (hb.mono HB4.out.size))))
        have C4 := Lib.hid (fun w' (hb : Below w4.heap.size w4 w') => g2hours_any A cap T B2 cb2 S2 p w' (H1.out.below (HB4.out.trans (hb.mono HB4.out.size))) hT (HS2.out.below (HB4.out.trans (hb.mono HB4.out.size))))
        have C5 := Lib.hid (fun w' (hb : Below w4.heap.size w4 w') => hhours_any A cap T B2 cb2 S2 p w' (H1.out.below (HB4.out.trans (hb.mono HB4.out.size))) hT (HS2.out.below (HB4.out.trans (hb.mono HB4.out.size))))
        have D0 : Hid (∀ w', Below w4.heap.size w4 w' → Calls Try.prog 15 #[.slice A T.length cap, .slice (some ⟨gl, 0, none⟩) 2 2, .agg #[.int .i64 p.x, .int .i64 p.y, .int .i64 p.z]] w' (InIs (mofI T [S, S2] p) w')) := Lib.hid (fun w' hb => g2maskOf_any A cap T (some ⟨gl, 0, none⟩) 2 [S, S2] p w' (H1.out.below (HB4.out.trans (hb.mono HB4.out.size))) hT (HROW.out.below hb) (by simp))
        have D1 : Hid (∀ w', Below w4.heap.size w4 w' → Calls Try.prog 16 #[.slice A T.length cap, .slice (some ⟨gl, 0, none⟩) 2 2, .agg #[.int .i64 p.x, .int .i64 p.y, .int .i64 p.z]] w' (InIs (mofI T [S, S2] p) w')) := Lib.hid (fun w' hb => hmaskOf_any A cap T (some ⟨gl, 0, none⟩) 2 [S, S2] p w' (H1.out.below (HB4.out.trans (hb.mono HB4.out.size))) hT (HROW.out.below hb) (by simp))
        have D2 : Hid (∀ w', Below w4.heap.size w4 w' → Calls Try.prog 15 #[.slice A T.length cap, .slice (some ⟨gl, 0, none⟩) 1 2, .agg #[.int .i64 p.x, .int .i64 p.y, .int .i64 p.z]] w' (InIs (mofI T [S] p) w')) := Lib.hid (fun w' hb => g2maskOf_any A cap T (some ⟨gl, 0, none⟩) 2 [S] p w' (H1.out.below (HB4.out.trans (hb.mono HB4.out.size))) hT ((HROW.out.below hb).take 1) (by simp))
        have D3 : Hid (∀ w', Below w4.heap.size w4 w' → Calls Try.prog 16 #[.slice A T.length cap, .slice (some ⟨gl, 0, none⟩) 1 2, .agg #[.int .i64 p.x, .int .i64 p.y, .int .i64 p.z]] w' (InIs (mofI T [S] p) w')) := Lib.hid (fun w' hb => hmaskOf_any A cap T (some ⟨gl, 0, none⟩) 2 [S] p w' (H1.out.below (HB4.out.trans (hb.mono HB4.out.size))) hT ((HROW.out.below hb).take 1) (by simp))
        have D4 := Lib.hid (fun w' (hb : Below w4.heap.size w4 w') => g2lost_any A cap T B cb S B2 cb2 S2 p w' (H1.out.below (HB4.out.trans (hb.mono HB4.out.size))) hT (HS1.out.below (HB4.out.trans (hb.mono HB4.out.size))) (HS2.out.below (HB4.out.trans (hb.mono HB4.out.size))))
        have D5 := Lib.hid (fun w' (hb : Below w4.heap.size w4 w') => hlost_any A cap T B cb S B2 cb2 S2 p w' (H1.out.below (HB4.out.trans (hb.mono HB4.out.size))) hT (HS1.out.below (HB4.out.trans (hb.mono HB4.out.size))) (HS2.out.below (HB4.out.trans (hb.mono HB4.out.size))))
        have F0 := Lib.hid (fun w' => g2count_any m w')
        have F1 := Lib.hid (fun w' => hcount_any m w')
        simp only [← HN1.out, ← HN2.out] at C2 C3 C4 C5 D4 D5
        generalize decide (TabOk T) = rt at *
        generalize cntI (mskI T S2 p) = v2 at *
        generalize mskI T S p = v1 at *
        generalize mofI T [S, S2] p = v3 at *
        generalize mofI T [S] p = v4 at *
        generalize lostI T S S2 p = v5 at *
        generalize cntI m = v6 at *
        have e0 : (rt == rt) = true := by simp
        have e1 : (v1 == v1) = true := by simp
        have e2 : (v2 == v2) = true := by simp
        have e3 : (v3 == v3) = true := by simp
        have e4 : (v4 == v4) = true := by simp
        have e5 : (v5 == v5) = true := by simp
        have e6 : (v6 == v6) = true := by simp
        clear HN1 HN2 HS1 HS2 HROW H1 hT hlen
        have E5 := Lib.hid (Pg12.of HP4.out)
        obtain ⟨x0, x1, x2, l0, _⟩ := E5.out
        refine wp_region_held_drew (S := (fun w' => w'.cell? ⟨g, 0, none⟩ = some (.int .i64 p.x) ∧ w'.cell? ⟨g, 1, none⟩ = some (.int .i64 p.y) ∧ w'.cell? ⟨g, 2, none⟩ = some (.int .i64 p.z) ∧ g < w'.heap.size ∧ Hid (Below w4.heap.size w4 w'))) (by kernel_rfl) ?_ (fun hHeld => ?_)
        · exact Pg12.drewN E5.out 1
        refine wpAnyH_take (i := 0) (oi := { dst := some 33, op := Go.Op.move (Go.Operand.tmp 0), type := 22, pos := "law.go:39", after := #[], guard := none }) (v := ?_) rfl (by kernel_rfl) (by kernel_rfl) (by kernel_rfl) (fun _ _ _ h => h) (Or.inl ⟨by rfl, ?_⟩) (by assumption) ?_
        rotate_left
        · (intro w hSw; (try dsimp only at hSw); go_simp); try with_reducible rfl
        try simp only [Act.put, List.setIfInBounds_toArray, List.set_cons_zero, List.set_cons_succ]
        refine wpAnyH_take (i := 2) (oi := { dst := some 35, op := Go.Op.move (Go.Operand.tmp 0), type := 22, pos := "law.go:39", after := #[], guard := none }) (v := ?_) rfl (by kernel_rfl) (by kernel_rfl) (by kernel_rfl) (fun _ _ _ h => h) (Or.inl ⟨by rfl, ?_⟩) (by assumption) ?_
        rotate_left
        · (intro w hSw; (try dsimp only at hSw); go_simp); try with_reducible rfl
        try simp only [Act.put, List.setIfInBounds_toArray, List.set_cons_zero, List.set_cons_succ]
        refine wpAnyH_ready (rs := [1]) (by kernel_rfl) (by simp) ?_
        refine (AllReadyH.cons (o := { dst := some 34, op := Go.Op.call { callee := Go.Callee.value (Go.Operand.func 9), args := #[Go.Operand.tmp 33], argTypes := #[22] }, type := 4, pos := "law.go:39", after := #[{ on := 0, ground := Go.Ground.data }], guard := none }) rfl (fun K0 hK => ?_) AllReadyH.nil)
        have hbq9 := Pg12.bel (g := g) (p := p) (w0 := w4) hHeld
        go_simp
        go_at_call 9
        with_reducible refine Calls.mono (C0.out _ hbq9) ?_
        rintro e w91 ⟨rfl, hb⟩
        try go_wp2_with fail
        refine hK.out _ _ (Pg12.go (g := g) (p := p) (w0 := w4) (by assumption) hb) (fun hHeld2 => ?_)
        clear hK K0 hHeld hb hbq9
        have hHeld := hHeld2; clear hHeld2
        try simp only [Act.put, List.setIfInBounds_toArray, List.set_cons_zero, List.set_cons_succ]
        refine wpAnyH_ready (rs := [3]) (by kernel_rfl) (by simp) ?_
        refine (AllReadyH.cons (o := { dst := some 36, op := Go.Op.call { callee := Go.Callee.value (Go.Operand.func 10), args := #[Go.Operand.tmp 35], argTypes := #[22] }, type := 4, pos := "law.go:39", after := #[{ on := 2, ground := Go.Ground.data }, { on := 1, ground := Go.Ground.chain }], guard := none }) rfl (fun K1 hK => ?_) AllReadyH.nil)
        have hbq9 := Pg12.bel (g := g) (p := p) (w0 := w4) hHeld
        go_simp
        go_at_call 10
        with_reducible refine Calls.mono (C1.out _ hbq9) ?_
        rintro e w93 ⟨rfl, hb⟩
        try go_wp2_with fail
        refine hK.out _ _ (Pg12.go (g := g) (p := p) (w0 := w4) (by assumption) hb) (fun hHeld2 => ?_)
        clear hK K1 hHeld hb hbq9
        have hHeld := hHeld2; clear hHeld2
        try simp only [Act.put, List.setIfInBounds_toArray, List.set_cons_zero, List.set_cons_succ]
        refine wpAnyH_take (i := 4) (oi := { dst := some 37, op := Go.Op.binOp Go.BinOp.eql 4 (Go.Operand.tmp 34) (Go.Operand.tmp 36) 4, type := 4, pos := "law.go:39", after := #[{ on := 1, ground := Go.Ground.data }, { on := 3, ground := Go.Ground.data }], guard := none }) (v := ?_) rfl (by kernel_rfl) (by kernel_rfl) (by kernel_rfl) (fun _ _ _ h => h) (Or.inl ⟨by rfl, ?_⟩) (by assumption) ?_
        rotate_left
        · (intro w hSw; (try dsimp only at hSw); go_simp); try with_reducible rfl
        try simp only [Act.put, List.setIfInBounds_toArray, List.set_cons_zero, List.set_cons_succ]
        refine wpAnyH_take (i := 5) (oi := { dst := some 38, op := Go.Op.move (Go.Operand.tmp 37), type := 4, pos := "law.go:39", after := #[{ on := 4, ground := Go.Ground.data }, { on := 3, ground := Go.Ground.chain }], guard := none }) (v := ?_) rfl (by kernel_rfl) (by kernel_rfl) (by kernel_rfl) (fun _ _ _ h => h) (Or.inl ⟨by rfl, ?_⟩) (by assumption) ?_
        rotate_left
        · (intro w hSw; (try dsimp only at hSw); go_simp); try with_reducible rfl
        try simp only [Act.put, List.setIfInBounds_toArray, List.set_cons_zero, List.set_cons_succ]
        refine wpAnyH_take (i := 6) (oi := { dst := some 39, op := Go.Op.move (Go.Operand.tmp 0), type := 22, pos := "law.go:39", after := #[{ on := 5, ground := Go.Ground.guard }], guard := some (5, true) }) (v := ?_) rfl (by kernel_rfl) (by kernel_rfl) (by kernel_rfl) (fun _ _ _ h => h) (Or.inl ⟨by rfl, ?_⟩) (by assumption) ?_
        rotate_left
        · (intro w hSw; (try dsimp only at hSw); go_simp); try with_reducible rfl
        try simp only [Act.put, List.setIfInBounds_toArray, List.set_cons_zero, List.set_cons_succ]
        refine wpAnyH_take (i := 7) (oi := { dst := some 40, op := Go.Op.move (Go.Operand.tmp 1), type := 23, pos := "law.go:39", after := #[{ on := 5, ground := Go.Ground.guard }], guard := some (5, true) }) (v := ?_) rfl (by kernel_rfl) (by kernel_rfl) (by kernel_rfl) (fun _ _ _ h => h) (Or.inl ⟨by rfl, ?_⟩) (by assumption) ?_
        rotate_left
        · (intro w hSw; (try dsimp only at hSw); go_simp); try with_reducible rfl
        try simp only [Act.put, List.setIfInBounds_toArray, List.set_cons_zero, List.set_cons_succ]
        refine wpAnyH_take (i := 8) (oi := { dst := some 41, op := Go.Op.load 25 (Go.Operand.tmp 8), type := 25, pos := "law.go:39", after := #[{ on := 5, ground := Go.Ground.guard }], guard := some (5, true) }) (v := ?_) rfl (by kernel_rfl) (by kernel_rfl) (by kernel_rfl) (fun _ _ _ h => h) (Or.inl ⟨by rfl, ?_⟩) (by assumption) ?_
        rotate_left
        · (intro w hSw; (try dsimp only at hSw); go_simp); try with_reducible rfl
        try simp only [Act.put, List.setIfInBounds_toArray, List.set_cons_zero, List.set_cons_succ]
        refine wpAnyH_take (i := 10) (oi := { dst := some 43, op := Go.Op.move (Go.Operand.tmp 0), type := 22, pos := "law.go:39", after := #[{ on := 5, ground := Go.Ground.guard }], guard := some (5, true) }) (v := ?_) rfl (by kernel_rfl) (by kernel_rfl) (by kernel_rfl) (fun _ _ _ h => h) (Or.inl ⟨by rfl, ?_⟩) (by assumption) ?_
        rotate_left
        · (intro w hSw; (try dsimp only at hSw); go_simp); try with_reducible rfl
        try simp only [Act.put, List.setIfInBounds_toArray, List.set_cons_zero, List.set_cons_succ]
        refine wpAnyH_take (i := 11) (oi := { dst := some 44, op := Go.Op.move (Go.Operand.tmp 1), type := 23, pos := "law.go:39", after := #[{ on := 5, ground := Go.Ground.guard }], guard := some (5, true) }) (v := ?_) rfl (by kernel_rfl) (by kernel_rfl) (by kernel_rfl) (fun _ _ _ h => h) (Or.inl ⟨by rfl, ?_⟩) (by assumption) ?_
        rotate_left
        · (intro w hSw; (try dsimp only at hSw); go_simp); try with_reducible rfl
        try simp only [Act.put, List.setIfInBounds_toArray, List.set_cons_zero, List.set_cons_succ]
        refine wpAnyH_take (i := 12) (oi := { dst := some 45, op := Go.Op.load 25 (Go.Operand.tmp 8), type := 25, pos := "law.go:39", after := #[{ on := 5, ground := Go.Ground.guard }], guard := some (5, true) }) (v := ?_) rfl (by kernel_rfl) (by kernel_rfl) (by kernel_rfl) (fun _ _ _ h => h) (Or.inl ⟨by rfl, ?_⟩) (by assumption) ?_
        rotate_left
        · (intro w hSw; (try dsimp only at hSw); go_simp); try with_reducible rfl
        try simp only [Act.put, List.setIfInBounds_toArray, List.set_cons_zero, List.set_cons_succ]
        refine wpAnyH_ready (rs := [9]) (by kernel_rfl) (by simp) ?_
        refine (AllReadyH.cons (o := { dst := some 42, op := Go.Op.call { callee := Go.Callee.value (Go.Operand.func 11), args := #[Go.Operand.tmp 39, Go.Operand.tmp 40, Go.Operand.tmp 41], argTypes := #[22, 23, 25] }, type := 3, pos := "law.go:39", after := #[{ on := 6, ground := Go.Ground.data }, { on := 7, ground := Go.Ground.data }, { on := 8, ground := Go.Ground.data }, { on := 5, ground := Go.Ground.chain }, { on := 5, ground := Go.Ground.guard }], guard := some (5, true) }) rfl (fun K2 hK => ?_) AllReadyH.nil)
        have hbq9 := Pg12.bel (g := g) (p := p) (w0 := w4) hHeld
        go_simp
        go_at_call 11
        with_reducible refine Calls.mono (C2.out _ hbq9) ?_
        rintro e w99 ⟨rfl, hb⟩
        try go_wp2_with fail
        refine hK.out _ _ (Pg12.go (g := g) (p := p) (w0 := w4) (by assumption) hb) (fun hHeld2 => ?_)
        clear hK K2 hHeld hb hbq9
        have hHeld := hHeld2; clear hHeld2
        try simp only [Act.put, List.setIfInBounds_toArray, List.set_cons_zero, List.set_cons_succ]
        refine wpAnyH_ready (rs := [13]) (by kernel_rfl) (by simp) ?_
        refine (AllReadyH.cons (o := { dst := some 46, op := Go.Op.call { callee := Go.Callee.value (Go.Operand.func 12), args := #[Go.Operand.tmp 43, Go.Operand.tmp 44, Go.Operand.tmp 45], argTypes := #[22, 23, 25] }, type := 3, pos := "law.go:39", after := #[{ on := 10, ground := Go.Ground.data }, { on := 11, ground := Go.Ground.data }, { on := 12, ground := Go.Ground.data }, { on := 9, ground := Go.Ground.chain }, { on := 5, ground := Go.Ground.guard }], guard := some (5, true) }) rfl (fun K3 hK => ?_) AllReadyH.nil)
        have hbq9 := Pg12.bel (g := g) (p := p) (w0 := w4) hHeld
        go_simp
        go_at_call 12
        with_reducible refine Calls.mono (C3.out _ hbq9) ?_
        rintro e w913 ⟨rfl, hb⟩
        try go_wp2_with fail
        refine hK.out _ _ (Pg12.go (g := g) (p := p) (w0 := w4) (by assumption) hb) (fun hHeld2 => ?_)
        clear hK K3 hHeld hb hbq9
        have hHeld := hHeld2; clear hHeld2
        try simp only [Act.put, List.setIfInBounds_toArray, List.set_cons_zero, List.set_cons_succ]
        refine wpAnyH_take (i := 14) (oi := { dst := some 47, op := Go.Op.binOp Go.BinOp.eql 3 (Go.Operand.tmp 42) (Go.Operand.tmp 46) 3, type := 4, pos := "law.go:39", after := #[{ on := 9, ground := Go.Ground.data }, { on := 13, ground := Go.Ground.data }, { on := 5, ground := Go.Ground.guard }], guard := some (5, true) }) (v := ?_) rfl (by kernel_rfl) (by kernel_rfl) (by kernel_rfl) (fun _ _ _ h => h) (Or.inl ⟨by rfl, ?_⟩) (by assumption) ?_
        rotate_left
        · (intro w hSw; (try dsimp only at hSw); go_simp); try with_reducible rfl
        try simp only [Act.put, List.setIfInBounds_toArray, List.set_cons_zero, List.set_cons_succ]
        refine wpAnyH_take (i := 15) (oi := { dst := some 48, op := Go.Op.pick (Go.Operand.tmp 38) (Go.Operand.tmp 47) (Go.Operand.const (Go.Value.bool false)), type := 4, pos := "law.go:39", after := #[{ on := 5, ground := Go.Ground.data }, { on := 14, ground := Go.Ground.data }], guard := none }) (v := ?_) rfl (by kernel_rfl) (by kernel_rfl) (by kernel_rfl) (fun _ _ _ h => h) (Or.inl ⟨by rfl, ?_⟩) (by assumption) ?_
        rotate_left
        · (intro w hSw; (try dsimp only at hSw); go_simp); try with_reducible rfl
        try simp only [Act.put, List.setIfInBounds_toArray, List.set_cons_zero, List.set_cons_succ]
        refine wpAnyH_take (i := 16) (oi := { dst := some 49, op := Go.Op.move (Go.Operand.tmp 48), type := 4, pos := "law.go:39", after := #[{ on := 15, ground := Go.Ground.data }, { on := 13, ground := Go.Ground.chain }], guard := none }) (v := ?_) rfl (by kernel_rfl) (by kernel_rfl) (by kernel_rfl) (fun _ _ _ h => h) (Or.inl ⟨by rfl, ?_⟩) (by assumption) ?_
        rotate_left
        · (intro w hSw; (try dsimp only at hSw); go_simp); try with_reducible rfl
        try simp only [Act.put, List.setIfInBounds_toArray, List.set_cons_zero, List.set_cons_succ]
        refine wpAnyH_take (i := 17) (oi := { dst := some 50, op := Go.Op.move (Go.Operand.tmp 0), type := 22, pos := "law.go:39", after := #[{ on := 16, ground := Go.Ground.guard }], guard := some (16, true) }) (v := ?_) rfl (by kernel_rfl) (by kernel_rfl) (by kernel_rfl) (fun _ _ _ h => h) (Or.inl ⟨by rfl, ?_⟩) (by assumption) ?_
        rotate_left
        · (intro w hSw; (try dsimp only at hSw); go_simp); try with_reducible rfl
        try simp only [Act.put, List.setIfInBounds_toArray, List.set_cons_zero, List.set_cons_succ]
        refine wpAnyH_take (i := 18) (oi := { dst := some 51, op := Go.Op.move (Go.Operand.tmp 2), type := 23, pos := "law.go:39", after := #[{ on := 16, ground := Go.Ground.guard }], guard := some (16, true) }) (v := ?_) rfl (by kernel_rfl) (by kernel_rfl) (by kernel_rfl) (fun _ _ _ h => h) (Or.inl ⟨by rfl, ?_⟩) (by assumption) ?_
        rotate_left
        · (intro w hSw; (try dsimp only at hSw); go_simp); try with_reducible rfl
        try simp only [Act.put, List.setIfInBounds_toArray, List.set_cons_zero, List.set_cons_succ]
        refine wpAnyH_take (i := 19) (oi := { dst := some 52, op := Go.Op.load 25 (Go.Operand.tmp 8), type := 25, pos := "law.go:39", after := #[{ on := 16, ground := Go.Ground.guard }], guard := some (16, true) }) (v := ?_) rfl (by kernel_rfl) (by kernel_rfl) (by kernel_rfl) (fun _ _ _ h => h) (Or.inl ⟨by rfl, ?_⟩) (by assumption) ?_
        rotate_left
        · (intro w hSw; (try dsimp only at hSw); go_simp); try with_reducible rfl
        try simp only [Act.put, List.setIfInBounds_toArray, List.set_cons_zero, List.set_cons_succ]
        refine wpAnyH_take (i := 21) (oi := { dst := some 54, op := Go.Op.move (Go.Operand.tmp 0), type := 22, pos := "law.go:39", after := #[{ on := 16, ground := Go.Ground.guard }], guard := some (16, true) }) (v := ?_) rfl (by kernel_rfl) (by kernel_rfl) (by kernel_rfl) (fun _ _ _ h => h) (Or.inl ⟨by rfl, ?_⟩) (by assumption) ?_
        rotate_left
        · (intro w hSw; (try dsimp only at hSw); go_simp); try with_reducible rfl
        try simp only [Act.put, List.setIfInBounds_toArray, List.set_cons_zero, List.set_cons_succ]
        refine wpAnyH_take (i := 22) (oi := { dst := some 55, op := Go.Op.move (Go.Operand.tmp 2), type := 23, pos := "law.go:39", after := #[{ on := 16, ground := Go.Ground.guard }], guard := some (16, true) }) (v := ?_) rfl (by kernel_rfl) (by kernel_rfl) (by kernel_rfl) (fun _ _ _ h => h) (Or.inl ⟨by rfl, ?_⟩) (by assumption) ?_
        rotate_left
        · (intro w hSw; (try dsimp only at hSw); go_simp); try with_reducible rfl
        try simp only [Act.put, List.setIfInBounds_toArray, List.set_cons_zero, List.set_cons_succ]
        refine wpAnyH_take (i := 23) (oi := { dst := some 56, op := Go.Op.load 25 (Go.Operand.tmp 8), type := 25, pos := "law.go:39", after := #[{ on := 16, ground := Go.Ground.guard }], guard := some (16, true) }) (v := ?_) rfl (by kernel_rfl) (by kernel_rfl) (by kernel_rfl) (fun _ _ _ h => h) (Or.inl ⟨by rfl, ?_⟩) (by assumption) ?_
        rotate_left
        · (intro w hSw; (try dsimp only at hSw); go_simp); try with_reducible rfl
        try simp only [Act.put, List.setIfInBounds_toArray, List.set_cons_zero, List.set_cons_succ]
        refine wpAnyH_ready (rs := [20]) (by kernel_rfl) (by simp) ?_
        refine (AllReadyH.cons (o := { dst := some 53, op := Go.Op.call { callee := Go.Callee.value (Go.Operand.func 13), args := #[Go.Operand.tmp 50, Go.Operand.tmp 51, Go.Operand.tmp 52], argTypes := #[22, 23, 25] }, type := 3, pos := "law.go:39", after := #[{ on := 17, ground := Go.Ground.data }, { on := 18, ground := Go.Ground.data }, { on := 19, ground := Go.Ground.data }, { on := 16, ground := Go.Ground.chain }, { on := 16, ground := Go.Ground.guard }], guard := some (16, true) }) rfl (fun K4 hK => ?_) AllReadyH.nil)
        have hbq9 := Pg12.bel (g := g) (p := p) (w0 := w4) hHeld
        go_simp
        go_at_call 13
        with_reducible refine Calls.mono (C4.out _ hbq9) ?_
        rintro e w920 ⟨rfl, hb⟩
        try go_wp2_with fail
        refine hK.out _ _ (Pg12.go (g := g) (p := p) (w0 := w4) (by assumption) hb) (fun hHeld2 => ?_)
        clear hK K4 hHeld hb hbq9
        have hHeld := hHeld2; clear hHeld2
        try simp only [Act.put, List.setIfInBounds_toArray, List.set_cons_zero, List.set_cons_succ]
        refine wpAnyH_ready (rs := [24]) (by kernel_rfl) (by simp) ?_
        refine (AllReadyH.cons (o := { dst := some 57, op := Go.Op.call { callee := Go.Callee.value (Go.Operand.func 14), args := #[Go.Operand.tmp 54, Go.Operand.tmp 55, Go.Operand.tmp 56], argTypes := #[22, 23, 25] }, type := 3, pos := "law.go:39", after := #[{ on := 21, ground := Go.Ground.data }, { on := 22, ground := Go.Ground.data }, { on := 23, ground := Go.Ground.data }, { on := 20, ground := Go.Ground.chain }, { on := 16, ground := Go.Ground.guard }], guard := some (16, true) }) rfl (fun K5 hK => ?_) AllReadyH.nil)
        have hbq9 := Pg12.bel (g := g) (p := p) (w0 := w4) hHeld
        go_simp
        go_at_call 14
        with_reducible refine Calls.mono (C5.out _ hbq9) ?_
        rintro e w924 ⟨rfl, hb⟩
        try go_wp2_with fail
        refine hK.out _ _ (Pg12.go (g := g) (p := p) (w0 := w4) (by assumption) hb) (fun hHeld2 => ?_)
        clear hK K5 hHeld hb hbq9
        have hHeld := hHeld2; clear hHeld2
        try simp only [Act.put, List.setIfInBounds_toArray, List.set_cons_zero, List.set_cons_succ]
        refine wpAnyH_take (i := 25) (oi := { dst := some 58, op := Go.Op.binOp Go.BinOp.eql 3 (Go.Operand.tmp 53) (Go.Operand.tmp 57) 3, type := 4, pos := "law.go:39", after := #[{ on := 20, ground := Go.Ground.data }, { on := 24, ground := Go.Ground.data }, { on := 16, ground := Go.Ground.guard }], guard := some (16, true) }) (v := ?_) rfl (by kernel_rfl) (by kernel_rfl) (by kernel_rfl) (fun _ _ _ h => h) (Or.inl ⟨by rfl, ?_⟩) (by assumption) ?_
        rotate_left
        · (intro w hSw; (try dsimp only at hSw); go_simp); try with_reducible rfl
        try simp only [Act.put, List.setIfInBounds_toArray, List.set_cons_zero, List.set_cons_succ]
        refine wpAnyH_take (i := 26) (oi := { dst := some 59, op := Go.Op.pick (Go.Operand.tmp 49) (Go.Operand.tmp 58) (Go.Operand.const (Go.Value.bool false)), type := 4, pos := "law.go:39", after := #[{ on := 16, ground := Go.Ground.data }, { on := 25, ground := Go.Ground.data }], guard := none }) (v := ?_) rfl (by kernel_rfl) (by kernel_rfl) (by kernel_rfl) (fun _ _ _ h => h) (Or.inl ⟨by rfl, ?_⟩) (by assumption) ?_
        rotate_left
        · (intro w hSw; (try dsimp only at hSw); go_simp); try with_reducible rfl
        try simp only [Act.put, List.setIfInBounds_toArray, List.set_cons_zero, List.set_cons_succ]
        refine wpAnyH_take (i := 27) (oi := { dst := some 13, op := Go.Op.assign (Go.Operand.tmp 59), type := 4, pos := "law.go:39", after := #[{ on := 26, ground := Go.Ground.data }, { on := 24, ground := Go.Ground.chain }, { on := 0, ground := Go.Ground.phase }, { on := 1, ground := Go.Ground.phase }, { on := 2, ground := Go.Ground.phase }, { on := 3, ground := Go.Ground.phase }, { on := 4, ground := Go.Ground.phase }, { on := 5, ground := Go.Ground.phase }, { on := 6, ground := Go.Ground.phase }, { on := 7, ground := Go.Ground.phase }, { on := 8, ground := Go.Ground.phase }, { on := 9, ground := Go.Ground.phase }, { on := 10, ground := Go.Ground.phase }, { on := 11, ground := Go.Ground.phase }, { on := 12, ground := Go.Ground.phase }, { on := 13, ground := Go.Ground.phase }, { on := 14, ground := Go.Ground.phase }, { on := 15, ground := Go.Ground.phase }, { on := 16, ground := Go.Ground.phase }, { on := 17, ground := Go.Ground.phase }, { on := 18, ground := Go.Ground.phase }, { on := 19, ground := Go.Ground.phase }, { on := 20, ground := Go.Ground.phase }, { on := 21, ground := Go.Ground.phase }, { on := 22, ground := Go.Ground.phase }, { on := 23, ground := Go.Ground.phase }, { on := 24, ground := Go.Ground.phase }, { on := 25, ground := Go.Ground.phase }, { on := 26, ground := Go.Ground.phase }], guard := none }) (v := ?_) rfl (by kernel_rfl) (by kernel_rfl) (by kernel_rfl) (fun _ _ _ h => h) (Or.inl ⟨by rfl, ?_⟩) (by assumption) ?_
        rotate_left
        · (intro w hSw; (try dsimp only at hSw); go_simp); try with_reducible rfl
        try simp only [Act.put, List.setIfInBounds_toArray, List.set_cons_zero, List.set_cons_succ]
        refine wpAnyH_done (by kernel_rfl) ?_ _
        have E6 := Lib.hid hHeld
        clear hHeld E5 x0 x1 x2 l0
        go_upto_region 6 with fail
        obtain ⟨x0, x1, x2, l0, _⟩ := E6.out
        refine wp_region_held_drew (S := (fun w' => w'.cell? ⟨g, 0, none⟩ = some (.int .i64 p.x) ∧ w'.cell? ⟨g, 1, none⟩ = some (.int .i64 p.y) ∧ w'.cell? ⟨g, 2, none⟩ = some (.int .i64 p.z) ∧ g < w'.heap.size ∧ Hid (Below w4.heap.size w4 w'))) (by kernel_rfl) ?_ (fun hHeld => ?_)
        · exact Pg12.drewN (g := g) (p := p) (w0 := w4) E6.out 1
        refine wpAnyH_take (i := 0) (oi := { dst := some 60, op := Go.Op.move (Go.Operand.tmp 0), type := 22, pos := "law.go:40", after := #[], guard := none }) (v := ?_) rfl (by kernel_rfl) (by kernel_rfl) (by kernel_rfl) (fun _ _ _ h => h) (Or.inl ⟨by rfl, ?_⟩) (by assumption) ?_
        rotate_left
        · (intro w hSw; (try dsimp only at hSw); go_simp); try with_reducible rfl
        try simp only [Act.put, List.setIfInBounds_toArray, List.set_cons_zero, List.set_cons_succ]
        refine wpAnyH_take (i := 1) (oi := { dst := some 61, op := Go.Op.move (Go.Operand.tmp 12), type := 28, pos := "law.go:40", after := #[], guard := none }) (v := ?_) rfl (by kernel_rfl) (by kernel_rfl) (by kernel_rfl) (fun _ _ _ h => h) (Or.inl ⟨by rfl, ?_⟩) (by assumption) ?_
        rotate_left
        · (intro w hSw; (try dsimp only at hSw); go_simp); try with_reducible rfl
        try simp only [Act.put, List.setIfInBounds_toArray, List.set_cons_zero, List.set_cons_succ]
        refine wpAnyH_take (i := 2) (oi := { dst := some 62, op := Go.Op.load 25 (Go.Operand.tmp 8), type := 25, pos := "law.go:40", after := #[], guard := none }) (v := ?_) rfl (by kernel_rfl) (by kernel_rfl) (by kernel_rfl) (fun _ _ _ h => h) (Or.inl ⟨by rfl, ?_⟩) (by assumption) ?_
        rotate_left
        · (intro w hSw; (try dsimp only at hSw); go_simp); try with_reducible rfl
        try simp only [Act.put, List.setIfInBounds_toArray, List.set_cons_zero, List.set_cons_succ]
        refine wpAnyH_take (i := 4) (oi := { dst := some 64, op := Go.Op.move (Go.Operand.tmp 0), type := 22, pos := "law.go:40", after := #[], guard := none }) (v := ?_) rfl (by kernel_rfl) (by kernel_rfl) (by kernel_rfl) (fun _ _ _ h => h) (Or.inl ⟨by rfl, ?_⟩) (by assumption) ?_
        rotate_left
        · (intro w hSw; (try dsimp only at hSw); go_simp); try with_reducible rfl
        try simp only [Act.put, List.setIfInBounds_toArray, List.set_cons_zero, List.set_cons_succ]
        refine wpAnyH_take (i := 5) (oi := { dst := some 65, op := Go.Op.move (Go.Operand.tmp 12), type := 28, pos := "law.go:40", after := #[], guard := none }) (v := ?_) rfl (by kernel_rfl) (by kernel_rfl) (by kernel_rfl) (fun _ _ _ h => h) (Or.inl ⟨by rfl, ?_⟩) (by assumption) ?_
        rotate_left
        · (intro w hSw; (try dsimp only at hSw); go_simp); try with_reducible rfl
        try simp only [Act.put, List.setIfInBounds_toArray, List.set_cons_zero, List.set_cons_succ]
        refine wpAnyH_take (i := 6) (oi := { dst := some 66, op := Go.Op.load 25 (Go.Operand.tmp 8), type := 25, pos := "law.go:40", after := #[], guard := none }) (v := ?_) rfl (by kernel_rfl) (by kernel_rfl) (by kernel_rfl) (fun _ _ _ h => h) (Or.inl ⟨by rfl, ?_⟩) (by assumption) ?_
        rotate_left
        · (intro w hSw; (try dsimp only at hSw); go_simp); try with_reducible rfl
        try simp only [Act.put, List.setIfInBounds_toArray, List.set_cons_zero, List.set_cons_succ]
        refine wpAnyH_ready (rs := [3]) (by kernel_rfl) (by simp) ?_
        refine (AllReadyH.cons (o := { dst := some 63, op := Go.Op.call { callee := Go.Callee.value (Go.Operand.func 15), args := #[Go.Operand.tmp 60, Go.Operand.tmp 61, Go.Operand.tmp 62], argTypes := #[22, 28, 25] }, type := 3, pos := "law.go:40", after := #[{ on := 0, ground := Go.Ground.data }, { on := 1, ground := Go.Ground.data }, { on := 2, ground := Go.Ground.data }], guard := none }) rfl (fun K0 hK => ?_) AllReadyH.nil)
        have hbq9 := Pg12.bel (g := g) (p := p) (w0 := w4) hHeld
        go_simp
        go_at_call 15
        with_reducible refine Calls.mono (D0.out _ hbq9) ?_
        rintro e w93 ⟨rfl, hb⟩
        try go_wp2_with fail
        refine hK.out _ _ (Pg12.go (g := g) (p := p) (w0 := w4) (by assumption) hb) (fun hHeld2 => ?_)
        clear hK K0 hHeld hb hbq9
        have hHeld := hHeld2; clear hHeld2
        try simp only [Act.put, List.setIfInBounds_toArray, List.set_cons_zero, List.set_cons_succ]
        refine wpAnyH_ready (rs := [7]) (by kernel_rfl) (by simp) ?_
        refine (AllReadyH.cons (o := { dst := some 67, op := Go.Op.call { callee := Go.Callee.value (Go.Operand.func 16), args := #[Go.Operand.tmp 64, Go.Operand.tmp 65, Go.Operand.tmp 66], argTypes := #[22, 28, 25] }, type := 3, pos := "law.go:40", after := #[{ on := 4, ground := Go.Ground.data }, { on := 5, ground := Go.Ground.data }, { on := 6, ground := Go.Ground.data }, { on := 3, ground := Go.Ground.chain }], guard := none }) rfl (fun K1 hK => ?_) AllReadyH.nil)
        have hbq9 := Pg12.bel (g := g) (p := p) (w0 := w4) hHeld
        go_simp
        go_at_call 16
        with_reducible refine Calls.mono (D1.out _ hbq9) ?_
        rintro e w97 ⟨rfl, hb⟩
        try go_wp2_with fail
        refine hK.out _ _ (Pg12.go (g := g) (p := p) (w0 := w4) (by assumption) hb) (fun hHeld2 => ?_)
        clear hK K1 hHeld hb hbq9
        have hHeld := hHeld2; clear hHeld2
        try simp only [Act.put, List.setIfInBounds_toArray, List.set_cons_zero, List.set_cons_succ]
        refine wpAnyH_take (i := 8) (oi := { dst := some 68, op := Go.Op.binOp Go.BinOp.eql 3 (Go.Operand.tmp 63) (Go.Operand.tmp 67) 3, type := 4, pos := "law.go:40", after := #[{ on := 3, ground := Go.Ground.data }, { on := 7, ground := Go.Ground.data }], guard := none }) (v := ?_) rfl (by kernel_rfl) (by kernel_rfl) (by kernel_rfl) (fun _ _ _ h => h) (Or.inl ⟨by rfl, ?_⟩) (by assumption) ?_
        rotate_left
        · (intro w hSw; (try dsimp only at hSw); go_simp); try with_reducible rfl
        try simp only [Act.put, List.setIfInBounds_toArray, List.set_cons_zero, List.set_cons_succ]
        refine wpAnyH_take (i := 9) (oi := { dst := some 69, op := Go.Op.move (Go.Operand.tmp 68), type := 4, pos := "law.go:40", after := #[{ on := 8, ground := Go.Ground.data }, { on := 7, ground := Go.Ground.chain }], guard := none }) (v := ?_) rfl (by kernel_rfl) (by kernel_rfl) (by kernel_rfl) (fun _ _ _ h => h) (Or.inl ⟨by rfl, ?_⟩) (by assumption) ?_
        rotate_left
        · (intro w hSw; (try dsimp only at hSw); go_simp); try with_reducible rfl
        try simp only [Act.put, List.setIfInBounds_toArray, List.set_cons_zero, List.set_cons_succ]
        refine wpAnyH_take (i := 10) (oi := { dst := some 70, op := Go.Op.move (Go.Operand.tmp 0), type := 22, pos := "law.go:40", after := #[{ on := 9, ground := Go.Ground.guard }], guard := some (9, true) }) (v := ?_) rfl (by kernel_rfl) (by kernel_rfl) (by kernel_rfl) (fun _ _ _ h => h) (Or.inl ⟨by rfl, ?_⟩) (by assumption) ?_
        rotate_left
        · (intro w hSw; (try dsimp only at hSw); go_simp); try with_reducible rfl
        try simp only [Act.put, List.setIfInBounds_toArray, List.set_cons_zero, List.set_cons_succ]
        refine wpAnyH_take (i := 11) (oi := { dst := some 71, op := Go.Op.move (Go.Operand.tmp 12), type := 28, pos := "law.go:40", after := #[{ on := 9, ground := Go.Ground.guard }], guard := some (9, true) }) (v := ?_) rfl (by kernel_rfl) (by kernel_rfl) (by kernel_rfl) (fun _ _ _ h => h) (Or.inl ⟨by rfl, ?_⟩) (by assumption) ?_
        rotate_left
        · (intro w hSw; (try dsimp only at hSw); go_simp); try with_reducible rfl
        try simp only [Act.put, List.setIfInBounds_toArray, List.set_cons_zero, List.set_cons_succ]
        refine wpAnyH_take (i := 12) (oi := { dst := some 72, op := Go.Op.slice 28 (Go.Operand.tmp 71) none (some (Go.Operand.const (Go.Value.int Go.IntKind.i64 1))) none, type := 28, pos := "law.go:40", after := #[{ on := 11, ground := Go.Ground.data }, { on := 9, ground := Go.Ground.guard }], guard := some (9, true) }) (v := ?_) rfl (by kernel_rfl) (by kernel_rfl) (by kernel_rfl) (fun _ _ _ h => h) (Or.inl ⟨by rfl, ?_⟩) (by assumption) ?_
        rotate_left
        · (intro w hSw; (try dsimp only at hSw); go_simp); try with_reducible rfl
        try simp only [Act.put, List.setIfInBounds_toArray, List.set_cons_zero, List.set_cons_succ]
        refine wpAnyH_take (i := 13) (oi := { dst := some 73, op := Go.Op.load 25 (Go.Operand.tmp 8), type := 25, pos := "law.go:40", after := #[{ on := 9, ground := Go.Ground.guard }], guard := some (9, true) }) (v := ?_) rfl (by kernel_rfl) (by kernel_rfl) (by kernel_rfl) (fun _ _ _ h => h) (Or.inl ⟨by rfl, ?_⟩) (by assumption) ?_
        rotate_left
        · (intro w hSw; (try dsimp only at hSw); go_simp); try with_reducible rfl
        try simp only [Act.put, List.setIfInBounds_toArray, List.set_cons_zero, List.set_cons_succ]
        refine wpAnyH_take (i := 15) (oi := { dst := some 75, op := Go.Op.move (Go.Operand.tmp 0), type := 22, pos := "law.go:40", after := #[{ on := 9, ground := Go.Ground.guard }], guard := some (9, true) }) (v := ?_) rfl (by kernel_rfl) (by kernel_rfl) (by kernel_rfl) (fun _ _ _ h => h) (Or.inl ⟨by rfl, ?_⟩) (by assumption) ?_
        rotate_left
        · (intro w hSw; (try dsimp only at hSw); go_simp); try with_reducible rfl
        try simp only [Act.put, List.setIfInBounds_toArray, List.set_cons_zero, List.set_cons_succ]
        refine wpAnyH_take (i := 16) (oi := { dst := some 76, op := Go.Op.move (Go.Operand.tmp 12), type := 28, pos := "law.go:40", after := #[{ on := 9, ground := Go.Ground.guard }], guard := some (9, true) }) (v := ?_) rfl (by kernel_rfl) (by kernel_rfl) (by kernel_rfl) (fun _ _ _ h => h) (Or.inl ⟨by rfl, ?_⟩) (by assumption) ?_
        rotate_left
        · (intro w hSw; (try dsimp only at hSw); go_simp); try with_reducible rfl
        try simp only [Act.put, List.setIfInBounds_toArray, List.set_cons_zero, List.set_cons_succ]
        refine wpAnyH_take (i := 17) (oi := { dst := some 77, op := Go.Op.slice 28 (Go.Operand.tmp 76) none (some (Go.Operand.const (Go.Value.int Go.IntKind.i64 1))) none, type := 28, pos := "law.go:40", after := #[{ on := 16, ground := Go.Ground.data }, { on := 9, ground := Go.Ground.guard }], guard := some (9, true) }) (v := ?_) rfl (by kernel_rfl) (by kernel_rfl) (by kernel_rfl) (fun _ _ _ h => h) (Or.inl ⟨by rfl, ?_⟩) (by assumption) ?_
        rotate_left
        · (intro w hSw; (try dsimp only at hSw); go_simp); try with_reducible rfl
        try simp only [Act.put, List.setIfInBounds_toArray, List.set_cons_zero, List.set_cons_succ]
        refine wpAnyH_take (i := 18) (oi := { dst := some 78, op := Go.Op.load 25 (Go.Operand.tmp 8), type := 25, pos := "law.go:40", after := #[{ on := 9, ground := Go.Ground.guard }], guard := some (9, true) }) (v := ?_) rfl (by kernel_rfl) (by kernel_rfl) (by kernel_rfl) (fun _ _ _ h => h) (Or.inl ⟨by rfl, ?_⟩) (by assumption) ?_
        rotate_left
        · (intro w hSw; (try dsimp only at hSw); go_simp); try with_reducible rfl
        try simp only [Act.put, List.setIfInBounds_toArray, List.set_cons_zero, List.set_cons_succ]
        refine wpAnyH_ready (rs := [14]) (by kernel_rfl) (by simp) ?_
        refine (AllReadyH.cons (o := { dst := some 74, op := Go.Op.call { callee := Go.Callee.value (Go.Operand.func 15), args := #[Go.Operand.tmp 70, Go.Operand.tmp 72, Go.Operand.tmp 73], argTypes := #[22, 28, 25] }, type := 3, pos := "law.go:40", after := #[{ on := 10, ground := Go.Ground.data }, { on := 12, ground := Go.Ground.data }, { on := 13, ground := Go.Ground.data }, { on := 9, ground := Go.Ground.chain }, { on := 9, ground := Go.Ground.guard }], guard := some (9, true) }) rfl (fun K2 hK => ?_) AllReadyH.nil)
        have hbq9 := Pg12.bel (g := g) (p := p) (w0 := w4) hHeld
        go_simp
        go_at_call 15
        with_reducible refine Calls.mono (D2.out _ hbq9) ?_
        rintro e w914 ⟨rfl, hb⟩
        try go_wp2_with fail
        refine hK.out _ _ (Pg12.go (g := g) (p := p) (w0 := w4) (by assumption) hb) (fun hHeld2 => ?_)
        clear hK K2 hHeld hb hbq9
        have hHeld := hHeld2; clear hHeld2
        try simp only [Act.put, List.setIfInBounds_toArray, List.set_cons_zero, List.set_cons_succ]
        refine wpAnyH_ready (rs := [19]) (by kernel_rfl) (by simp) ?_
        refine (AllReadyH.cons (o := { dst := some 79, op := Go.Op.call { callee := Go.Callee.value (Go.Operand.func 16), args := #[Go.Operand.tmp 75, Go.Operand.tmp 77, Go.Operand.tmp 78], argTypes := #[22, 28, 25] }, type := 3, pos := "law.go:40", after := #[{ on := 15, ground := Go.Ground.data }, { on := 17, ground := Go.Ground.data }, { on := 18, ground := Go.Ground.data }, { on := 14, ground := Go.Ground.chain }, { on := 9, ground := Go.Ground.guard }], guard := some (9, true) }) rfl (fun K3 hK => ?_) AllReadyH.nil)
        have hbq9 := Pg12.bel (g := g) (p := p) (w0 := w4) hHeld
        go_simp
        go_at_call 16
        with_reducible refine Calls.mono (D3.out _ hbq9) ?_
        rintro e w919 ⟨rfl, hb⟩
        try go_wp2_with fail
        refine hK.out _ _ (Pg12.go (g := g) (p := p) (w0 := w4) (by assumption) hb) (fun hHeld2 => ?_)
        clear hK K3 hHeld hb hbq9
        have hHeld := hHeld2; clear hHeld2
        try simp only [Act.put, List.setIfInBounds_toArray, List.set_cons_zero, List.set_cons_succ]
        refine wpAnyH_take (i := 20) (oi := { dst := some 80, op := Go.Op.binOp Go.BinOp.eql 3 (Go.Operand.tmp 74) (Go.Operand.tmp 79) 3, type := 4, pos := "law.go:40", after := #[{ on := 14, ground := Go.Ground.data }, { on := 19, ground := Go.Ground.data }, { on := 9, ground := Go.Ground.guard }], guard := some (9, true) }) (v := ?_) rfl (by kernel_rfl) (by kernel_rfl) (by kernel_rfl) (fun _ _ _ h => h) (Or.inl ⟨by rfl, ?_⟩) (by assumption) ?_
        rotate_left
        · (intro w hSw; (try dsimp only at hSw); go_simp); try with_reducible rfl
        try simp only [Act.put, List.setIfInBounds_toArray, List.set_cons_zero, List.set_cons_succ]
        refine wpAnyH_take (i := 21) (oi := { dst := some 81, op := Go.Op.pick (Go.Operand.tmp 69) (Go.Operand.tmp 80) (Go.Operand.const (Go.Value.bool false)), type := 4, pos := "law.go:40", after := #[{ on := 9, ground := Go.Ground.data }, { on := 20, ground := Go.Ground.data }], guard := none }) (v := ?_) rfl (by kernel_rfl) (by kernel_rfl) (by kernel_rfl) (fun _ _ _ h => h) (Or.inl ⟨by rfl, ?_⟩) (by assumption) ?_
        rotate_left
        · (intro w hSw; (try dsimp only at hSw); go_simp); try with_reducible rfl
        try simp only [Act.put, List.setIfInBounds_toArray, List.set_cons_zero, List.set_cons_succ]
        refine wpAnyH_take (i := 22) (oi := { dst := some 82, op := Go.Op.move (Go.Operand.tmp 81), type := 4, pos := "law.go:40", after := #[{ on := 21, ground := Go.Ground.data }, { on := 19, ground := Go.Ground.chain }], guard := none }) (v := ?_) rfl (by kernel_rfl) (by kernel_rfl) (by kernel_rfl) (fun _ _ _ h => h) (Or.inl ⟨by rfl, ?_⟩) (by assumption) ?_
        rotate_left
        · (intro w hSw; (try dsimp only at hSw); go_simp); try with_reducible rfl
        try simp only [Act.put, List.setIfInBounds_toArray, List.set_cons_zero, List.set_cons_succ]
        refine wpAnyH_take (i := 23) (oi := { dst := some 83, op := Go.Op.move (Go.Operand.tmp 0), type := 22, pos := "law.go:40", after := #[{ on := 22, ground := Go.Ground.guard }], guard := some (22, true) }) (v := ?_) rfl (by kernel_rfl) (by kernel_rfl) (by kernel_rfl) (fun _ _ _ h => h) (Or.inl ⟨by rfl, ?_⟩) (by assumption) ?_
        rotate_left
        · (intro w hSw; (try dsimp only at hSw); go_simp); try with_reducible rfl
        try simp only [Act.put, List.setIfInBounds_toArray, List.set_cons_zero, List.set_cons_succ]
        refine wpAnyH_take (i := 24) (oi := { dst := some 84, op := Go.Op.move (Go.Operand.tmp 1), type := 23, pos := "law.go:40", after := #[{ on := 22, ground := Go.Ground.guard }], guard := some (22, true) }) (v := ?_) rfl (by kernel_rfl) (by kernel_rfl) (by kernel_rfl) (fun _ _ _ h => h) (Or.inl ⟨by rfl, ?_⟩) (by assumption) ?_
        rotate_left
        · (intro w hSw; (try dsimp only at hSw); go_simp); try with_reducible rfl
        try simp only [Act.put, List.setIfInBounds_toArray, List.set_cons_zero, List.set_cons_succ]
        refine wpAnyH_take (i := 25) (oi := { dst := some 85, op := Go.Op.move (Go.Operand.tmp 2), type := 23, pos := "law.go:40", after := #[{ on := 22, ground := Go.Ground.guard }], guard := some (22, true) }) (v := ?_) rfl (by kernel_rfl) (by kernel_rfl) (by kernel_rfl) (fun _ _ _ h => h) (Or.inl ⟨by rfl, ?_⟩) (by assumption) ?_
        rotate_left
        · (intro w hSw; (try dsimp only at hSw); go_simp); try with_reducible rfl
        try simp only [Act.put, List.setIfInBounds_toArray, List.set_cons_zero, List.set_cons_succ]
        refine wpAnyH_take (i := 26) (oi := { dst := some 86, op := Go.Op.load 25 (Go.Operand.tmp 8), type := 25, pos := "law.go:40", after := #[{ on := 22, ground := Go.Ground.guard }], guard := some (22, true) }) (v := ?_) rfl (by kernel_rfl) (by kernel_rfl) (by kernel_rfl) (fun _ _ _ h => h) (Or.inl ⟨by rfl, ?_⟩) (by assumption) ?_
        rotate_left
        · (intro w hSw; (try dsimp only at hSw); go_simp); try with_reducible rfl
        try simp only [Act.put, List.setIfInBounds_toArray, List.set_cons_zero, List.set_cons_succ]
        refine wpAnyH_take (i := 28) (oi := { dst := some 88, op := Go.Op.move (Go.Operand.tmp 0), type := 22, pos := "law.go:40", after := #[{ on := 22, ground := Go.Ground.guard }], guard := some (22, true) }) (v := ?_) rfl (by kernel_rfl) (by kernel_rfl) (by kernel_rfl) (fun _ _ _ h => h) (Or.inl ⟨by rfl, ?_⟩) (by assumption) ?_
        rotate_left
        · (intro w hSw; (try dsimp only at hSw); go_simp); try with_reducible rfl
        try simp only [Act.put, List.setIfInBounds_toArray, List.set_cons_zero, List.set_cons_succ]
        refine wpAnyH_take (i := 29) (oi := { dst := some 89, op := Go.Op.move (Go.Operand.tmp 1), type := 23, pos := "law.go:40", after := #[{ on := 22, ground := Go.Ground.guard }], guard := some (22, true) }) (v := ?_) rfl (by kernel_rfl) (by kernel_rfl) (by kernel_rfl) (fun _ _ _ h => h) (Or.inl ⟨by rfl, ?_⟩) (by assumption) ?_
        rotate_left
        · (intro w hSw; (try dsimp only at hSw); go_simp); try with_reducible rfl
        try simp only [Act.put, List.setIfInBounds_toArray, List.set_cons_zero, List.set_cons_succ]
        refine wpAnyH_take (i := 30) (oi := { dst := some 90, op := Go.Op.move (Go.Operand.tmp 2), type := 23, pos := "law.go:40", after := #[{ on := 22, ground := Go.Ground.guard }], guard := some (22, true) }) (v := ?_) rfl (by kernel_rfl) (by kernel_rfl) (by kernel_rfl) (fun _ _ _ h => h) (Or.inl ⟨by rfl, ?_⟩) (by assumption) ?_
        rotate_left
        · (intro w hSw; (try dsimp only at hSw); go_simp); try with_reducible rfl
        try simp only [Act.put, List.setIfInBounds_toArray, List.set_cons_zero, List.set_cons_succ]
        refine wpAnyH_take (i := 31) (oi := { dst := some 91, op := Go.Op.load 25 (Go.Operand.tmp 8), type := 25, pos := "law.go:40", after := #[{ on := 22, ground := Go.Ground.guard }], guard := some (22, true) }) (v := ?_) rfl (by kernel_rfl) (by kernel_rfl) (by kernel_rfl) (fun _ _ _ h => h) (Or.inl ⟨by rfl, ?_⟩) (by assumption) ?_
        rotate_left
        · (intro w hSw; (try dsimp only at hSw); go_simp); try with_reducible rfl
        try simp only [Act.put, List.setIfInBounds_toArray, List.set_cons_zero, List.set_cons_succ]
        refine wpAnyH_ready (rs := [27]) (by kernel_rfl) (by simp) ?_
        refine (AllReadyH.cons (o := { dst := some 87, op := Go.Op.call { callee := Go.Callee.value (Go.Operand.func 17), args := #[Go.Operand.tmp 83, Go.Operand.tmp 84, Go.Operand.tmp 85, Go.Operand.tmp 86], argTypes := #[22, 23, 23, 25] }, type := 3, pos := "law.go:40", after := #[{ on := 23, ground := Go.Ground.data }, { on := 24, ground := Go.Ground.data }, { on := 25, ground := Go.Ground.data }, { on := 26, ground := Go.Ground.data }, { on := 22, ground := Go.Ground.chain }, { on := 22, ground := Go.Ground.guard }], guard := some (22, true) }) rfl (fun K4 hK => ?_) AllReadyH.nil)
        have hbq9 := Pg12.bel (g := g) (p := p) (w0 := w4) hHeld
        go_simp
        go_at_call 17
        with_reducible refine Calls.mono (D4.out _ hbq9) ?_
        rintro e w927 ⟨rfl, hb⟩
        try go_wp2_with fail
        refine hK.out _ _ (Pg12.go (g := g) (p := p) (w0 := w4) (by assumption) hb) (fun hHeld2 => ?_)
        clear hK K4 hHeld hb hbq9
        have hHeld := hHeld2; clear hHeld2
        try simp only [Act.put, List.setIfInBounds_toArray, List.set_cons_zero, List.set_cons_succ]
        refine wpAnyH_ready (rs := [32]) (by kernel_rfl) (by simp) ?_
        refine (AllReadyH.cons (o := { dst := some 92, op := Go.Op.call { callee := Go.Callee.value (Go.Operand.func 18), args := #[Go.Operand.tmp 88, Go.Operand.tmp 89, Go.Operand.tmp 90, Go.Operand.tmp 91], argTypes := #[22, 23, 23, 25] }, type := 3, pos := "law.go:40", after := #[{ on := 28, ground := Go.Ground.data }, { on := 29, ground := Go.Ground.data }, { on := 30, ground := Go.Ground.data }, { on := 31, ground := Go.Ground.data }, { on := 27, ground := Go.Ground.chain }, { on := 22, ground := Go.Ground.guard }], guard := some (22, true) }) rfl (fun K5 hK => ?_) AllReadyH.nil)
        have hbq9 := Pg12.bel (g := g) (p := p) (w0 := w4) hHeld
        go_simp
        go_at_call 18
        with_reducible refine Calls.mono (D5.out _ hbq9) ?_
        rintro e w932 ⟨rfl, hb⟩
        try go_wp2_with fail
        refine hK.out _ _ (Pg12.go (g := g) (p := p) (w0 := w4) (by assumption) hb) (fun hHeld2 => ?_)
        clear hK K5 hHeld hb hbq9
        have hHeld := hHeld2; clear hHeld2
        try simp only [Act.put, List.setIfInBounds_toArray, List.set_cons_zero, List.set_cons_succ]
        refine wpAnyH_take (i := 33) (oi := { dst := some 93, op := Go.Op.binOp Go.BinOp.eql 3 (Go.Operand.tmp 87) (Go.Operand.tmp 92) 3, type := 4, pos := "law.go:40", after := #[{ on := 27, ground := Go.Ground.data }, { on := 32, ground := Go.Ground.data }, { on := 22, ground := Go.Ground.guard }], guard := some (22, true) }) (v := ?_) rfl (by kernel_rfl) (by kernel_rfl) (by kernel_rfl) (fun _ _ _ h => h) (Or.inl ⟨by rfl, ?_⟩) (by assumption) ?_
        rotate_left
        · (intro w hSw; (try dsimp only at hSw); go_simp); try with_reducible rfl
        try simp only [Act.put, List.setIfInBounds_toArray, List.set_cons_zero, List.set_cons_succ]
        refine wpAnyH_take (i := 34) (oi := { dst := some 94, op := Go.Op.pick (Go.Operand.tmp 82) (Go.Operand.tmp 93) (Go.Operand.const (Go.Value.bool false)), type := 4, pos := "law.go:40", after := #[{ on := 22, ground := Go.Ground.data }, { on := 33, ground := Go.Ground.data }], guard := none }) (v := ?_) rfl (by kernel_rfl) (by kernel_rfl) (by kernel_rfl) (fun _ _ _ h => h) (Or.inl ⟨by rfl, ?_⟩) (by assumption) ?_
        rotate_left
        · (intro w hSw; (try dsimp only at hSw); go_simp); try with_reducible rfl
        try simp only [Act.put, List.setIfInBounds_toArray, List.set_cons_zero, List.set_cons_succ]
        refine wpAnyH_take (i := 35) (oi := { dst := some 14, op := Go.Op.assign (Go.Operand.tmp 94), type := 4, pos := "law.go:40", after := #[{ on := 34, ground := Go.Ground.data }, { on := 32, ground := Go.Ground.chain }, { on := 0, ground := Go.Ground.phase }, { on := 1, ground := Go.Ground.phase }, { on := 2, ground := Go.Ground.phase }, { on := 3, ground := Go.Ground.phase }, { on := 4, ground := Go.Ground.phase }, { on := 5, ground := Go.Ground.phase }, { on := 6, ground := Go.Ground.phase }, { on := 7, ground := Go.Ground.phase }, { on := 8, ground := Go.Ground.phase }, { on := 9, ground := Go.Ground.phase }, { on := 10, ground := Go.Ground.phase }, { on := 11, ground := Go.Ground.phase }, { on := 12, ground := Go.Ground.phase }, { on := 13, ground := Go.Ground.phase }, { on := 14, ground := Go.Ground.phase }, { on := 15, ground := Go.Ground.phase }, { on := 16, ground := Go.Ground.phase }, { on := 17, ground := Go.Ground.phase }, { on := 18, ground := Go.Ground.phase }, { on := 19, ground := Go.Ground.phase }, { on := 20, ground := Go.Ground.phase }, { on := 21, ground := Go.Ground.phase }, { on := 22, ground := Go.Ground.phase }, { on := 23, ground := Go.Ground.phase }, { on := 24, ground := Go.Ground.phase }, { on := 25, ground := Go.Ground.phase }, { on := 26, ground := Go.Ground.phase }, { on := 27, ground := Go.Ground.phase }, { on := 28, ground := Go.Ground.phase }, { on := 29, ground := Go.Ground.phase }, { on := 30, ground := Go.Ground.phase }, { on := 31, ground := Go.Ground.phase }, { on := 32, ground := Go.Ground.phase }, { on := 33, ground := Go.Ground.phase }, { on := 34, ground := Go.Ground.phase }], guard := none }) (v := ?_) rfl (by kernel_rfl) (by kernel_rfl) (by kernel_rfl) (fun _ _ _ h => h) (Or.inl ⟨by rfl, ?_⟩) (by assumption) ?_
        rotate_left
        · (intro w hSw; (try dsimp only at hSw); go_simp); try with_reducible rfl
        try simp only [Act.put, List.setIfInBounds_toArray, List.set_cons_zero, List.set_cons_succ]
        refine wpAnyH_done (by kernel_rfl) ?_ _
        have HZ := Lib.hid (HB4.out.trans ((Pg12.bel (g := g) (p := p) (w0 := w4) hHeld).mono HB4.out.size))
        clear hHeld
        go_wp2_with fail
        with_reducible refine Calls.mono (F0.out _) ?_
        rintro e y1 ⟨rfl, hb⟩
        have HZ2 := Lib.hid (HZ.out.trans (hb.mono HZ.out.size))
        clear hb HZ F0
        go_wp2_with fail
        with_reducible refine Calls.mono (F1.out _) ?_
        rintro e y2 ⟨rfl, hb⟩
        have HZ3 := Lib.hid (HZ2.out.trans (hb.mono HZ2.out.size))
        clear hb HZ2 F1
        go_wp2_with fail
        go_ret
        exact ⟨rfl, HZ3.out⟩

end Go.Proofs.Ytdnoadngfkiabaa
