/-
  Layer 12: contracts of the program's sun, 2: OnesCount, Count, Hours, Lost.
-/
import Derived.Test.YtdnoadngfkiabaaP931
set_option linter.unusedVariables false
set_option maxRecDepth 100000
namespace Go.Proofs.Ytdnoadngfkiabaa
open Go.RowKit

set_option maxHeartbeats 4000000 in
theorem ones64_any (n : Nat) (hn : n < 18446744073709551616) (w : World) : Calls Try.prog 49 #[.int .u64 (n : Int)] w (InIs ((popN 64 n : Nat) : Int) w) := by
  obtain ⟨p1, hp1⟩ : ∃ p1, p1 = n / 2 &&& 6148914691236517205 := ⟨_, rfl⟩
  obtain ⟨p2, hp2⟩ : ∃ p2, p2 = n &&& 6148914691236517205 := ⟨_, rfl⟩
  obtain ⟨x1, h1⟩ : ∃ x1, x1 = p1 + p2 := ⟨_, rfl⟩
  obtain ⟨p3, hp3⟩ : ∃ p3, p3 = x1 / 4 &&& 3689348814741910323 := ⟨_, rfl⟩
  obtain ⟨p4, hp4⟩ : ∃ p4, p4 = x1 &&& 3689348814741910323 := ⟨_, rfl⟩
  obtain ⟨x2, h2⟩ : ∃ x2, x2 = p3 + p4 := ⟨_, rfl⟩
  obtain ⟨y2, h2y⟩ : ∃ y2, y2 = x2 / 16 + x2 := ⟨_, rfl⟩
  obtain ⟨x3, h3⟩ : ∃ x3, x3 = y2 &&& 1085102592571150095 := ⟨_, rfl⟩
  obtain ⟨x4, h4⟩ : ∃ x4, x4 = x3 + x3 / 256 := ⟨_, rfl⟩
  obtain ⟨x5, h5⟩ : ∃ x5, x5 = x4 + x4 / 65536 := ⟨_, rfl⟩
  obtain ⟨x6, h6⟩ : ∃ x6, x6 = x5 + x5 / 4294967296 := ⟨_, rfl⟩
  obtain ⟨b1, b2, b2y, b3, b4, b5, b6, hr⟩ := pop64 (x := n) (x1 := x1) (x2 := x2) (x3 := x3) (x4 := x4) (x5 := x5) (x6 := x6) hn (by rw [h1, hp1, hp2]) (by rw [h2, hp3, hp4]) (by rw [h3, h2y]) h4 h5 h6
  rw [← hr]
  have e1 : bits .and .u64 ((n : Int) / 2) 6148914691236517205 = (p1 : Int) := by rw [hp1]; exact u64_and_nat (n / 2) 6148914691236517205 (by omega) (by omega)
  have e2 : bits .and .u64 (n : Int) 6148914691236517205 = (p2 : Int) := by rw [hp2]; exact u64_and_nat n 6148914691236517205 (by omega) (by omega)
  have e3 : IntKind.u64.wrap ((p1 : Int) + (p2 : Int)) = (x1 : Int) := by rw [IntWalk.u64_in _ (by omega)]; omega
  have e4 : bits .and .u64 ((x1 : Int) / 4) 3689348814741910323 = (p3 : Int) := by rw [hp3]; exact u64_and_nat (x1 / 4) 3689348814741910323 (by omega) (by omega)
  have e5 : bits .and .u64 (x1 : Int) 3689348814741910323 = (p4 : Int) := by rw [hp4]; exact u64_and_nat x1 3689348814741910323 (by omega) (by omega)
  have e6 : IntKind.u64.wrap ((p3 : Int) + (p4 : Int)) = (x2 : Int) := by rw [IntWalk.u64_in _ (by omega)]; omega
  have e7 : IntKind.u64.wrap ((x2 : Int) / 16 + (x2 : Int)) = (y2 : Int) := by rw [IntWalk.u64_in _ (by omega)]; omega
  have e8 : bits .and .u64 (y2 : Int) 1085102592571150095 = (x3 : Int) := by rw [h3]; exact u64_and_nat y2 1085102592571150095 (by omega) (by omega)
  have e9 : IntKind.u64.wrap ((x3 : Int) + (x3 : Int) / 256) = (x4 : Int) := by rw [IntWalk.u64_in _ (by omega)]; omega
  have e10 : IntKind.u64.wrap ((x4 : Int) + (x4 : Int) / 65536) = (x5 : Int) := by rw [IntWalk.u64_in _ (by omega)]; omega
  have e11 : IntKind.u64.wrap ((x5 : Int) + (x5 : Int) / 4294967296) = (x6 : Int) := by rw [IntWalk.u64_in _ (by omega)]; omega
  have e12 : IntKind.i64.wrap (x6 : Int) = (x6 : Int) := IntWalk.i64_in _ (by omega)
  obtain ⟨q, hq⟩ : ∃ q, q = x6 % 128 := ⟨_, rfl⟩
  have e13 : bits .and .i64 (x6 : Int) 127 = (q : Int) := by rw [hq]; exact i64_and_127 x6 (by omega)
  rw [← hq]
  have i1 : (n : Int) ≤ 18446744073709551615 := by omega
  have i2 : (x6 : Int) ≤ 9223372036854775807 := by omega
  clear hp1 hp2 h1 hp3 hp4 h2 h2y h3 h4 h5 h6 b1 b2 b2y b3 b4 b5 b6 hr hq
  go_enter Try.func49, Try.ntmps49
  go_wp2_with fail
  go_ret
  exact ⟨rfl, Below.refl _ _⟩
set_option maxHeartbeats 4000000 in
theorem ones_any (n : Nat) (hn : n < 18446744073709551616) (w : World) : Calls Try.prog 31 #[.int .u64 (n : Int)] w (InIs ((popN 64 n : Nat) : Int) w) := by
  have H := Lib.hid (fun w' => ones64_any n hn w')
  generalize ((popN 64 n : Nat) : Int) = r at *
  clear hn
  go_enter Try.func31, Try.ntmps31
  go_wp2_with fail
  with_reducible refine Calls.mono (H.out _) ?_
  rintro e w1 ⟨rfl, hb⟩
  go_wp2_with fail
  go_ret
  exact ⟨rfl, hb⟩
set_option maxHeartbeats 4000000 in
theorem g2count_any (m : Int) (w : World) : Calls Try.prog 19 #[.int .i64 m] w (InIs (cntI m) w) := by
  have hlt := lowN_lt m
  have e1 : bits .and .i64 m 9223372036854775807 = ((lowN m : Nat) : Int) := by rw [i64_and_max]; unfold lowN; omega
  have H := Lib.hid (fun w' => ones_any (lowN m) (by omega) w')
  have e2 : popN 64 (lowN m) = popN 63 (lowN m) := pop_more _ 63 (by omega)
  rw [e2] at H
  rw [show cntI m = ((popN 63 (lowN m) : Nat) : Int) from rfl]
  generalize ((popN 63 (lowN m) : Nat) : Int) = r at *
  obtain ⟨n, hn⟩ : ∃ n, n = lowN m := ⟨_, rfl⟩
  rw [← hn] at H e1 hlt
  have e3 : IntKind.u64.wrap (n : Int) = (n : Int) := IntWalk.u64_in _ (by omega)
  clear hn e2
  go_enter Try.func19, Try.ntmps19
  go_wp2_with fail
  with_reducible refine Calls.mono (H.out _) ?_
  rintro e w1 ⟨rfl, hb⟩
  clear H
  go_wp2_with fail
  go_ret
  exact ⟨rfl, hb⟩
set_option maxHeartbeats 4000000 in
theorem g2hours_any (A : Option Addr) (cap : Nat) (T : List V3) (B : Option Addr) (cb : Nat) (S : List Sl) (p : V3) (w : World) (h1 : TbRow w A T) (hT : T.length ≤ 9223372036854775807) (h2 : SIn w B cb S) :
    Calls Try.prog 13 #[.slice A T.length cap, .slice B S.length cb, .agg #[.int .i64 p.x, .int .i64 p.y, .int .i64 p.z]] w (InIs (cntI (mskI T S p)) w) := by
  obtain ⟨w0, hw0⟩ : ∃ w0, w0 = w.alloc (.cells #[.int .i64 p.x, .int .i64 p.y, .int .i64 p.z] 25) := ⟨_, rfl⟩
  have HB0 : Hid (Below w.heap.size w w0) := Lib.hid (by rw [hw0]; exact (Below.refl _ _).alloc (Nat.le_refl _) _)
  have HP0 : Hid (P3At w0 w.heap.size p) := Lib.hid (by rw [hw0]; exact P3At.new w p)
  have HW0 := Lib.hid hw0
  clear hw0
  have HM := Lib.hid (fun w' (hb : Below w.heap.size w w') => g2mask_any A cap T B cb S p w' (h1.below hb) hT (h2.below hb))
  obtain ⟨m, hm, _⟩ := mskI_nat T S p
  rw [hm] at HM ⊢
  have HC := Lib.hid (fun w' => g2count_any (m : Int) w')
  generalize cntI (m : Int) = R at *
  clear h1 h2 hT hm
  go_enter Try.func13, Try.ntmps13
  go_upto_region 1 with fail
  rw [← HW0.out]; clear HW0
  obtain ⟨g, hg⟩ : ∃ g, g = w.heap.size := ⟨_, rfl⟩
  rw [← hg] at HP0
  simp only [← hg]
  clear hg
  have p0 := HP0.out.c0; have p1 := HP0.out.c1; have p2 := HP0.out.c2; have pl := HP0.out.lt
  go_wp2_with fail
  with_reducible refine Calls.mono (HM.out _ HB0.out) ?_
  rintro e w1 ⟨rfl, hb⟩
  have HB1 := Lib.hid (HB0.out.trans (hb.mono HB0.out.size))
  clear hb HB0 HP0 HM p0 p1 p2 pl
  go_wp2_with fail
  with_reducible refine Calls.mono (HC.out _) ?_
  rintro e w2 ⟨rfl, hb⟩
  have HB2 := Lib.hid (HB1.out.trans (hb.mono HB1.out.size))
  clear hb HB1 HC
  go_wp2_with fail
  go_ret
  exact ⟨rfl, HB2.out⟩
/-- what a region reads: a point. -/
def Pg12 (g : Nat) (p : V3) (w0 w' : World) : Prop := w'.cell? ⟨g, 0, none⟩ = some (.int .i64 p.x) ∧ w'.cell? ⟨g, 1, none⟩ = some (.int .i64 p.y) ∧ w'.cell? ⟨g, 2, none⟩ = some (.int .i64 p.z) ∧ g < w'.heap.size ∧ Hid (Below w0.heap.size w0 w')
theorem Pg12.bel {g : Nat} {p : V3} {w0 w : World} (h : Pg12 g p w0 w) : Below w0.heap.size w0 w := h.2.2.2.2.out
theorem Pg12.go {g : Nat} {p : V3} {w0 w w' : World} (h : Pg12 g p w0 w) (hb : Below w.heap.size w w') : Pg12 g p w0 w' := by
  obtain ⟨a0, a1, a2, l0, h8⟩ := h
  have x := fun k => hb.cell (p := ⟨g, k, none⟩) l0
  exact ⟨(x _).trans a0, (x _).trans a1, (x _).trans a2, Nat.lt_of_lt_of_le l0 hb.size, Lib.hid (h8.out.trans (hb.mono h8.out.size))⟩
theorem Pg12.drewN {g : Nat} {p : V3} {w0 w : World} (h : Pg12 g p w0 w) (k : Nat) : Pg12 g p w0 (w.drewN k) := h.go (below_drewN (Below.refl _ _) k)
theorem Pg12.of {g : Nat} {p : V3} {w : World} (h : P3At w g p) : Pg12 g p w w := ⟨h.c0, h.c1, h.c2, h.lt, Lib.hid (Below.refl _ _)⟩

set_option maxHeartbeats 16000000 in
theorem g2lost_any (A : Option Addr) (cap : Nat) (T : List V3) (B : Option Addr) (cb : Nat) (S : List Sl) (B2 : Option Addr) (cb2 : Nat) (S2 : List Sl) (p : V3) (w : World) (h1 : TbRow w A T) (hT : T.length ≤ 9223372036854775807) (h2 : SIn w B cb S) (h3 : SIn w B2 cb2 S2) :
    Calls Try.prog 17 #[.slice A T.length cap, .slice B S.length cb, .slice B2 S2.length cb2, .agg #[.int .i64 p.x, .int .i64 p.y, .int .i64 p.z]] w (InIs (lostI T S S2 p) w) := by
  obtain ⟨w0, hw0⟩ : ∃ w0, w0 = w.alloc (.cells #[.int .i64 p.x, .int .i64 p.y, .int .i64 p.z] 25) := ⟨_, rfl⟩
  have HB0 : Hid (Below w.heap.size w w0) := Lib.hid (by rw [hw0]; exact (Below.refl _ _).alloc (Nat.le_refl _) _)
  have HP0 : Hid (P3At w0 w.heap.size p) := Lib.hid (by rw [hw0]; exact P3At.new w p)
  have HW0 := Lib.hid hw0
  clear hw0
  have HM1 := Lib.hid (fun w' (hb : Below w.heap.size w w') => g2mask_any A cap T B cb S p w' (h1.below hb) hT (h2.below hb))
  have HM2 := Lib.hid (fun w' (hb : Below w.heap.size w w') => g2mask_any A cap T B2 cb2 S2 p w' (h1.below hb) hT (h3.below hb))
  by_cases cs : SolP S2
  case neg =>
    have HR := Lib.hid (fun w' (hb : Below w.heap.size w w') => bright_no (h3.below hb) cs)
    rw [show lostI T S S2 p = 0 from if_neg (fun h => cs h.2.2.2)]
    clear h1 h2 h3 hT HM1 HM2 cs
    go_enter Try.func17, Try.ntmps17
    go_upto_region 1 with fail
    rw [← HW0.out]; clear HW0
    obtain ⟨g, hg⟩ : ∃ g, g = w.heap.size := ⟨_, rfl⟩
    simp only [← hg]
    clear hg
    go_wp2_with fail
    with_reducible refine Calls.mono (HR.out _ HB0.out) ?_
    rintro e w1 ⟨rfl, hb⟩
    have HB1 := Lib.hid (HB0.out.trans (hb.mono HB0.out.size))
    clear hb HB0 HP0 HR
    go_wp2_with fail
    go_ret
    exact ⟨rfl, HB1.out⟩
  case pos =>
    have HR := Lib.hid (fun w' (hb : Below w.heap.size w w') => bright_yes (h3.below hb) cs)
    have hand := lost_andnot T S S2 p cs
    clear h1 h2 h3 hT cs
    generalize lostI T S S2 p = R at *
    generalize mskI T S p = M1 at *
    generalize mskI T S2 p = M2 at *
    go_enter Try.func17, Try.ntmps17
    go_upto_region 1 with fail
    rw [← HW0.out]; clear HW0
    obtain ⟨g, hg⟩ : ∃ g, g = w.heap.size := ⟨_, rfl⟩
    rw [← hg] at HP0
    simp only [← hg]
    clear hg
    go_wp2_with fail
    with_reducible refine Calls.mono (HR.out _ HB0.out) ?_
    rintro e w1 ⟨rfl, hb⟩
    have HB1 := Lib.hid (HB0.out.trans (hb.mono HB0.out.size))
    have HP1 := Lib.hid (HP0.out.go hb)
    clear hb HB0 HP0 HR
    go_upto_region 3 with fail
    have E5 := Lib.hid (Pg12.of HP1.out)
    have G1 := Lib.hid (fun w' (hh : Below w1.heap.size w1 w') => HM1.out w' (HB1.out.trans (hh.mono HB1.out.size)))
    have G2 := Lib.hid (fun w' (hh : Below w1.heap.size w1 w') => HM2.out w' (HB1.out.trans (hh.mono HB1.out.size)))
    obtain ⟨x0, x1, x2, l0, _⟩ := E5.out
    clear HM1 HM2 HP1
    refine wp_region_held_drew (S := (fun w' => w'.cell? ⟨g, 0, none⟩ = some (.int .i64 p.x) ∧ w'.cell? ⟨g, 1, none⟩ = some (.int .i64 p.y) ∧ w'.cell? ⟨g, 2, none⟩ = some (.int .i64 p.z) ∧ g < w'.heap.size ∧ Hid (Below w1.heap.size w1 w'))) (by kernel_rfl) ?_ (fun hHeld => ?_)
    · exact Pg12.drewN E5.out 1
    refine wpAnyH_take (i := 0) (oi := { dst := some 12, op := Go.Op.move (Go.Operand.tmp 0), type := 22, pos := "sun.go:53", after := #[], guard := none }) (v := ?_) rfl (by kernel_rfl) (by kernel_rfl) (by kernel_rfl) (fun _ _ _ h => h) (Or.inl ⟨by rfl, ?_⟩) (by assumption) ?_
    rotate_left
    · (intro w hSw; (try dsimp only at hSw); go_simp); try with_reducible rfl
    try simp only [Act.put, List.setIfInBounds_toArray, List.set_cons_zero, List.set_cons_succ]
    refine wpAnyH_take (i := 1) (oi := { dst := some 13, op := Go.Op.move (Go.Operand.tmp 1), type := 23, pos := "sun.go:53", after := #[], guard := none }) (v := ?_) rfl (by kernel_rfl) (by kernel_rfl) (by kernel_rfl) (fun _ _ _ h => h) (Or.inl ⟨by rfl, ?_⟩) (by assumption) ?_
    rotate_left
    · (intro w hSw; (try dsimp only at hSw); go_simp); try with_reducible rfl
    try simp only [Act.put, List.setIfInBounds_toArray, List.set_cons_zero, List.set_cons_succ]
    refine wpAnyH_take (i := 2) (oi := { dst := some 14, op := Go.Op.load 25 (Go.Operand.tmp 7), type := 25, pos := "sun.go:53", after := #[], guard := none }) (v := ?_) rfl (by kernel_rfl) (by kernel_rfl) (by kernel_rfl) (fun _ _ _ h => h) (Or.inl ⟨by rfl, ?_⟩) (by assumption) ?_
    rotate_left
    · (intro w hSw; (try dsimp only at hSw); go_simp); try with_reducible rfl
    try simp only [Act.put, List.setIfInBounds_toArray, List.set_cons_zero, List.set_cons_succ]
    refine wpAnyH_take (i := 4) (oi := { dst := some 16, op := Go.Op.move (Go.Operand.tmp 0), type := 22, pos := "sun.go:53", after := #[], guard := none }) (v := ?_) rfl (by kernel_rfl) (by kernel_rfl) (by kernel_rfl) (fun _ _ _ h => h) (Or.inl ⟨by rfl, ?_⟩) (by assumption) ?_
    rotate_left
    · (intro w hSw; (try dsimp only at hSw); go_simp); try with_reducible rfl
    try simp only [Act.put, List.setIfInBounds_toArray, List.set_cons_zero, List.set_cons_succ]
    refine wpAnyH_take (i := 5) (oi := { dst := some 17, op := Go.Op.move (Go.Operand.tmp 2), type := 23, pos := "sun.go:53", after := #[], guard := none }) (v := ?_) rfl (by kernel_rfl) (by kernel_rfl) (by kernel_rfl) (fun _ _ _ h => h) (Or.inl ⟨by rfl, ?_⟩) (by assumption) ?_
    rotate_left
    · (intro w hSw; (try dsimp only at hSw); go_simp); try with_reducible rfl
    try simp only [Act.put, List.setIfInBounds_toArray, List.set_cons_zero, List.set_cons_succ]
    refine wpAnyH_take (i := 6) (oi := { dst := some 18, op := Go.Op.load 25 (Go.Operand.tmp 7), type := 25, pos := "sun.go:53", after := #[], guard := none }) (v := ?_) rfl (by kernel_rfl) (by kernel_rfl) (by kernel_rfl) (fun _ _ _ h => h) (Or.inl ⟨by rfl, ?_⟩) (by assumption) ?_
    rotate_left
    · (intro w hSw; (try dsimp only at hSw); go_simp); try with_reducible rfl
    try simp only [Act.put, List.setIfInBounds_toArray, List.set_cons_zero, List.set_cons_succ]
    refine wpAnyH_ready (rs := [3]) (by kernel_rfl) (by simp) ?_
    refine (AllReadyH.cons (o := { dst := some 15, op := Go.Op.call { callee := Go.Callee.value (Go.Operand.func 11), args := #[Go.Operand.tmp 12, Go.Operand.tmp 13, Go.Operand.tmp 14], argTypes := #[22, 23, 25] }, type := 3, pos := "sun.go:53", after := #[{ on := 0, ground := Go.Ground.data }, { on := 1, ground := Go.Ground.data }, { on := 2, ground := Go.Ground.data }], guard := none }) rfl (fun K0 hK => ?_) AllReadyH.nil)
    have hbq9 := Pg12.bel (g := g) (p := p) (w0 := w1) hHeld
    go_simp
    go_at_call 11
    with_reducible refine Calls.mono (G1.out _ hbq9) ?_
    rintro e w93 ⟨rfl, hb⟩
    try go_wp2_with fail
    refine hK.out _ _ (Pg12.go (g := g) (p := p) (w0 := w1) (by assumption) hb) (fun hHeld2 => ?_)
    clear hK K0 hHeld hb hbq9
    have hHeld := hHeld2; clear hHeld2
    try simp only [Act.put, List.setIfInBounds_toArray, List.set_cons_zero, List.set_cons_succ]
    refine wpAnyH_ready (rs := [7]) (by kernel_rfl) (by simp) ?_
    refine (AllReadyH.cons (o := { dst := some 19, op := Go.Op.call { callee := Go.Callee.value (Go.Operand.func 11), args := #[Go.Operand.tmp 16, Go.Operand.tmp 17, Go.Operand.tmp 18], argTypes := #[22, 23, 25] }, type := 3, pos := "sun.go:53", after := #[{ on := 4, ground := Go.Ground.data }, { on := 5, ground := Go.Ground.data }, { on := 6, ground := Go.Ground.data }, { on := 3, ground := Go.Ground.chain }], guard := none }) rfl (fun K1 hK => ?_) AllReadyH.nil)
    have hbq9 := Pg12.bel (g := g) (p := p) (w0 := w1) hHeld
    go_simp
    go_at_call 11
    with_reducible refine Calls.mono (G2.out _ hbq9) ?_
    rintro e w97 ⟨rfl, hb⟩
    try go_wp2_with fail
    refine hK.out _ _ (Pg12.go (g := g) (p := p) (w0 := w1) (by assumption) hb) (fun hHeld2 => ?_)
    clear hK K1 hHeld hb hbq9
    have hHeld := hHeld2; clear hHeld2
    try simp only [Act.put, List.setIfInBounds_toArray, List.set_cons_zero, List.set_cons_succ]
    refine wpAnyH_take (i := 8) (oi := { dst := some 20, op := Go.Op.binOp Go.BinOp.andNot 3 (Go.Operand.tmp 15) (Go.Operand.tmp 19) 3, type := 3, pos := "sun.go:53", after := #[{ on := 3, ground := Go.Ground.data }, { on := 7, ground := Go.Ground.data }], guard := none }) (v := ?_) rfl (by kernel_rfl) (by kernel_rfl) (by kernel_rfl) (fun _ _ _ h => h) (Or.inl ⟨by rfl, ?_⟩) (by assumption) ?_
    rotate_left
    · (intro w hSw; (try dsimp only at hSw); go_simp); try with_reducible rfl
    try simp only [Act.put, List.setIfInBounds_toArray, List.set_cons_zero, List.set_cons_succ]
    refine wpAnyH_take (i := 9) (oi := { dst := some 8, op := Go.Op.assign (Go.Operand.tmp 20), type := 3, pos := "sun.go:53", after := #[{ on := 8, ground := Go.Ground.data }, { on := 7, ground := Go.Ground.chain }, { on := 0, ground := Go.Ground.phase }, { on := 1, ground := Go.Ground.phase }, { on := 2, ground := Go.Ground.phase }, { on := 3, ground := Go.Ground.phase }, { on := 4, ground := Go.Ground.phase }, { on := 5, ground := Go.Ground.phase }, { on := 6, ground := Go.Ground.phase }, { on := 7, ground := Go.Ground.phase }, { on := 8, ground := Go.Ground.phase }], guard := none }) (v := ?_) rfl (by kernel_rfl) (by kernel_rfl) (by kernel_rfl) (fun _ _ _ h => h) (Or.inl ⟨by rfl, ?_⟩) (by assumption) ?_
    rotate_left
    · (intro w hSw; (try dsimp only at hSw); go_simp); try with_reducible rfl
    try simp only [Act.put, List.setIfInBounds_toArray, List.set_cons_zero, List.set_cons_succ]
    refine wpAnyH_done (by kernel_rfl) ?_ _
    have HZ := Lib.hid (HB1.out.trans ((Pg12.bel (g := g) (p := p) (w0 := w1) hHeld).mono HB1.out.size))
    clear hHeld
    go_wp2_with fail
    go_ret
    exact ⟨rfl, HZ.out⟩

end Go.Proofs.Ytdnoadngfkiabaa
