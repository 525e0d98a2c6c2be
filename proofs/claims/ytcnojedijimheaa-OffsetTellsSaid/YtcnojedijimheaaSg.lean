/-
  Contracts of the program's layer 8 (2): common.
-/
import Derived.Test.YtcnojedijimheaaSf
import Derived.Lib.MinMax
import Derived.Deep.RegionHeld3
import Derived.BigQuiet
import Derived.Maps.AppendAt
import Derived.Deep.AppendLies
import Derived.IntWalk
set_option linter.unusedVariables false
set_option maxRecDepth 100000
namespace Go.Proofs.Ytcnojedijimheaa
open Go.RowKit

theorem SpRow.drop {w : World} {B b o : Nat} {P : List (Int × Int)} (h : SpRow w B (some ⟨b, o, none⟩) P) (n : Nat) : SpRow w B (some ⟨b, o + n * 2, none⟩) (P.drop n) := fun h0 => by
  rw [List.length_drop] at h0
  obtain ⟨b', off, e, hB, hl, hc⟩ := h (by omega)
  injection e with e
  injection e with e1 e2
  subst e1; subst e2
  refine ⟨b, o + n * 2, rfl, hB, hl, fun j hj => ?_⟩
  rw [List.length_drop] at hj
  have := hc (n + j) (by omega)
  rw [List.getElem_drop, show o + n * 2 + j * 2 = o + (n + j) * 2 by omega]
  exact this
theorem spansR_drop (l : List Rc) (n : Nat) : spansR (l.drop n) = (spansR l).drop n := by simp [spansR, List.map_drop]
/-- what the region of a round reads. -/
def C4 (b1 o1 b2 o2 : Nat) (p0 p1 u0 u1 : Int) (w w' : World) : Prop := w'.cell? ⟨b1, o1, none⟩ = some (.int .i64 p0) ∧ w'.cell? ⟨b1, o1 + 1, none⟩ = some (.int .i64 p1) ∧ w'.cell? ⟨b2, o2 + 1, none⟩ = some (.int .i64 u0) ∧ w'.cell? ⟨b2, o2 + 3, none⟩ = some (.int .i64 u1) ∧ b1 < w.heap.size ∧ b2 < w.heap.size ∧ Hid (Below w.heap.size w w')
theorem C4.go {b1 o1 b2 o2 : Nat} {p0 p1 u0 u1 : Int} {w w1 w2 : World} (h : C4 b1 o1 b2 o2 p0 p1 u0 u1 w w1) (hb : Below w1.heap.size w1 w2) : C4 b1 o1 b2 o2 p0 p1 u0 u1 w w2 := by
  obtain ⟨h0, h1, h2, h3, l1, l2, hh⟩ := h
  have hs := hh.out.size
  have c := fun b o (hb2 : b < w.heap.size) => hb.cell (p := ⟨b, o, none⟩) (show b < w1.heap.size by omega)
  exact ⟨(c _ _ l1).trans h0, (c _ _ l1).trans h1, (c _ _ l2).trans h2, (c _ _ l2).trans h3, l1, l2, Lib.hid (hh.out.trans (hb.mono hs))⟩
theorem C4.drewN {b1 o1 b2 o2 : Nat} {p0 p1 u0 u1 : Int} {w w1 : World} (h : C4 b1 o1 b2 o2 p0 p1 u0 u1 w w1) (n : Nat) : C4 b1 o1 b2 o2 p0 p1 u0 u1 w (w1.drewN n) := h.go (below_drewN (Below.refl _ _) n)
set_option maxHeartbeats 16000000 in
theorem ycom_any (B : Nat) (A1 : Option Addr) (c1 : Nat) (A2 : Option Addr) (c2 : Nat) (P : List (Int × Int)) (l : List Rc) (w : World) (h1 : SpRow w B A1 P) (h2 : RRow w A2 l) (k1 : P.length ≤ c1) (k2 : c1 ≤ 9223372036854775807) (k3 : l.length ≤ c2) (k4 : c2 ≤ 9223372036854775807) (hs : P.length + l.length ≤ 4294967296) :
    Calls Try.prog 97 #[.slice A1 P.length c1, .slice A2 l.length c2] w (SpIs (comS P (spansR l)) w) := by
  obtain ⟨i0, hi9, hz0, hz1, hz2⟩ := info_parts infoSpan
  have H1 := Lib.hid h1; clear h1
  have H2 := Lib.hid h2; clear h2
  have HSz := Lib.hid hs; clear hs
  have K0 : Hid (OwnS (.slice none 0 0) [] w w) := Lib.hid (OwnS.start w)
  go_enter Try.func97, Try.ntmps97
  go_wp2
  go_loopw [0, 1, 5] (fun a b v wr => ∃ (A1' : Option Addr) (c1' : Nat) (P' : List (Int × Int)) (A2' : Option Addr) (c2' : Nat) (l' : List Rc) (v0 : Value) (R : List (Int × Int)), a = .slice A1' P'.length c1' ∧ b = .slice A2' l'.length c2' ∧ v0 = v ∧ Hid (SpRow w B A1' P') ∧ Hid (RRow w A2' l') ∧ P'.length ≤ c1' ∧ c1' ≤ 9223372036854775807 ∧ l'.length ≤ c2' ∧ c2' ≤ 9223372036854775807 ∧ Hid (OwnS v0 R w wr) ∧ Hid (R ++ comS P' (spansR l') = comS P (spansR l)) ∧ Hid (R.length + P'.length + l'.length ≤ P.length + l.length)) (fun a b _ _ => (match a with | .slice _ n _ => n | _ => 0) + (match b with | .slice _ n _ => n | _ => 0))
  case atStart => exact ⟨A1, c1, P, A2, c2, l, _, [], rfl, rfl, rfl, H1, H2, k1, k2, k3, k4, K0, Lib.hid rfl, Lib.hid (by simp)⟩
  case round =>
    clear K0 H1 H2 k1 k2 k3 k4
    obtain ⟨A1', c1', P', A2', c2', l', v0, R, rfl, rfl, rfl, HP, HR, k1, k2, k3, k4, HO, HE, HL⟩ := hrel
    by_cases hP : 0 < P'.length
    · by_cases hl : 0 < l'.length
      · obtain ⟨b1, o1, rfl, hB1, hb1, hv1⟩ := HP.out hP
        obtain ⟨b2, o2, rfl, hb2, hv2⟩ := HR.out hl
        obtain ⟨x0, x1⟩ := hv1 0 hP
        obtain ⟨_, y1, _, y3⟩ := hv2 0 hl
        simp only [Nat.zero_mul, Nat.add_zero] at x0 x1 y1 y3
        clear hv1 hv2
        have X1 := x1; have Y3 := y3
        have wc := fun b o (h : b < w.heap.size) => HO.out.bel.cell (p := ⟨b, o, none⟩) h
        have x0 := (wc _ _ hb1).trans x0; have x1 := (wc _ _ hb1).trans x1; have y1 := (wc _ _ hb2).trans y1; have y3 := (wc _ _ hb2).trans y3
        clear wc
        have hst := comS_step (P := P') (Q := spansR l') (i := 0) (j := 0) hP (by rw [spansR_len]; exact hl)
        simp only [List.drop_zero, spansR_at l' 0 hl, Nat.zero_add] at hst
        obtain ⟨p, hp⟩ : ∃ p, p = P'[0] := ⟨_, rfl⟩
        obtain ⟨r, hr⟩ : ∃ r, r = l'[0] := ⟨_, rfl⟩
        rw [← hp] at x0 x1 X1 hst
        rw [← hr] at y1 y3 Y3 hst
        clear hp hr
        have hE := HE.out
        rw [hst] at hE
        have HE2 := Lib.hid hE; clear hE hst HE
        obtain ⟨p0, p1⟩ := p
        simp only [] at x0 x1 X1
        have hbs := HO.out.bel.size
        have r1 : (0 : Int) < (P'.length : Int) := by omega
        have r2 : (0 : Int) < (l'.length : Int) := by omega
        generalize r.Y0 = u0 at *
        generalize r.Y1 = u1 at *
        by_cases c : max p0 u0 < min p1 u1
        · have E0 : Hid (C4 b1 o1 b2 o2 p0 p1 u0 u1 w wr) := Lib.hid ⟨x0, x1, y1, y3, hb1, hb2, Lib.hid HO.out.bel⟩
          have HX := Lib.hid (show w.cell? ⟨b1, o1 + 1, none⟩ = some (.int .i64 p1) ∧ w.cell? ⟨b2, o2 + 3, none⟩ = some (.int .i64 u1) from ⟨X1, Y3⟩)
          clear x0 x1 y1 y3 X1 Y3 hbs
          go_wp2_with fail
          refine wp_region_held_drew (S := fun w' => w'.cell? ⟨b1, o1, none⟩ = some (.int .i64 p0) ∧ w'.cell? ⟨b1, o1 + 1, none⟩ = some (.int .i64 p1) ∧ w'.cell? ⟨b2, o2 + 1, none⟩ = some (.int .i64 u0) ∧ w'.cell? ⟨b2, o2 + 3, none⟩ = some (.int .i64 u1) ∧ b1 < w.heap.size ∧ b2 < w.heap.size ∧ Hid (Below w.heap.size w w')) (by kernel_rfl) ?_ (fun hHeld => ?_)
          · exact C4.drewN E0.out 1
          refine wpAnyH_take (i := 0) (oi := { dst := some 15, op := Go.Op.move (Go.Operand.tmp 0), type := 58, pos := "offset.go:132", after := #[], guard := none }) (v := ?_) rfl (by kernel_rfl) (by kernel_rfl) (by kernel_rfl) (fun _ _ _ h => h) (Or.inl ⟨by rfl, ?_⟩) (by assumption) ?_
          rotate_left
          · (intro w hSw; (try dsimp only at hSw); go_simp); try with_reducible rfl
          try simp only [Act.put, List.setIfInBounds_toArray, List.set_cons_zero, List.set_cons_succ]
          refine wpAnyH_take (i := 1) (oi := { dst := some 16, op := Go.Op.indexAddr 58 (Go.Operand.tmp 15) (Go.Operand.const (Go.Value.int Go.IntKind.i64 0)), type := 0, pos := "offset.go:132", after := #[{ on := 0, ground := Go.Ground.data }], guard := none }) (v := ?_) rfl (by kernel_rfl) (by kernel_rfl) (by kernel_rfl) (fun _ _ _ h => h) (Or.inl ⟨by rfl, ?_⟩) (by assumption) ?_
          rotate_left
          · (intro w hSw; (try dsimp only at hSw); go_simp); try with_reducible rfl
          try simp only [Act.put, List.setIfInBounds_toArray, List.set_cons_zero, List.set_cons_succ]
          refine wpAnyH_take (i := 2) (oi := { dst := some 17, op := Go.Op.fieldAddr 63 (Go.Operand.tmp 16) 0, type := 0, pos := "offset.go:132", after := #[{ on := 1, ground := Go.Ground.data }], guard := none }) (v := ?_) rfl (by kernel_rfl) (by kernel_rfl) (by kernel_rfl) (fun _ _ _ h => h) (Or.inl ⟨by rfl, ?_⟩) (by assumption) ?_
          rotate_left
          · (intro w hSw; (try dsimp only at hSw); go_simp); try with_reducible rfl
          try simp only [Act.put, List.setIfInBounds_toArray, List.set_cons_zero, List.set_cons_succ]
          refine wpAnyH_take (i := 3) (oi := { dst := some 18, op := Go.Op.load 3 (Go.Operand.tmp 17), type := 3, pos := "offset.go:132", after := #[{ on := 2, ground := Go.Ground.data }], guard := none }) (v := ?_) rfl (by kernel_rfl) (by kernel_rfl) (by kernel_rfl) (fun _ _ _ h => h) (Or.inl ⟨by rfl, ?_⟩) (by assumption) ?_
          rotate_left
          · (intro w hSw; (try dsimp only at hSw); go_simp); try with_reducible rfl
          try simp only [Act.put, List.setIfInBounds_toArray, List.set_cons_zero, List.set_cons_succ]
          refine wpAnyH_take (i := 4) (oi := { dst := some 19, op := Go.Op.move (Go.Operand.tmp 1), type := 22, pos := "offset.go:132", after := #[], guard := none }) (v := ?_) rfl (by kernel_rfl) (by kernel_rfl) (by kernel_rfl) (fun _ _ _ h => h) (Or.inl ⟨by rfl, ?_⟩) (by assumption) ?_
          rotate_left
          · (intro w hSw; (try dsimp only at hSw); go_simp); try with_reducible rfl
          try simp only [Act.put, List.setIfInBounds_toArray, List.set_cons_zero, List.set_cons_succ]
          refine wpAnyH_take (i := 5) (oi := { dst := some 20, op := Go.Op.indexAddr 22 (Go.Operand.tmp 19) (Go.Operand.const (Go.Value.int Go.IntKind.i64 0)), type := 0, pos := "offset.go:132", after := #[{ on := 4, ground := Go.Ground.data }], guard := none }) (v := ?_) rfl (by kernel_rfl) (by kernel_rfl) (by kernel_rfl) (fun _ _ _ h => h) (Or.inl ⟨by rfl, ?_⟩) (by assumption) ?_
          rotate_left
          · (intro w hSw; (try dsimp only at hSw); go_simp); try with_reducible rfl
          try simp only [Act.put, List.setIfInBounds_toArray, List.set_cons_zero, List.set_cons_succ]
          refine wpAnyH_take (i := 6) (oi := { dst := some 21, op := Go.Op.fieldAddr 41 (Go.Operand.tmp 20) 1, type := 0, pos := "offset.go:132", after := #[{ on := 5, ground := Go.Ground.data }], guard := none }) (v := ?_) rfl (by kernel_rfl) (by kernel_rfl) (by kernel_rfl) (fun _ _ _ h => h) (Or.inl ⟨by rfl, ?_⟩) (by assumption) ?_
          rotate_left
          · (intro w hSw; (try dsimp only at hSw); go_simp); try with_reducible rfl
          try simp only [Act.put, List.setIfInBounds_toArray, List.set_cons_zero, List.set_cons_succ]
          refine wpAnyH_take (i := 7) (oi := { dst := some 22, op := Go.Op.load 3 (Go.Operand.tmp 21), type := 3, pos := "offset.go:132", after := #[{ on := 6, ground := Go.Ground.data }], guard := none }) (v := ?_) rfl (by kernel_rfl) (by kernel_rfl) (by kernel_rfl) (fun _ _ _ h => h) (Or.inl ⟨by rfl, ?_⟩) (by assumption) ?_
          rotate_left
          · (intro w hSw; (try dsimp only at hSw); go_simp); try with_reducible rfl
          try simp only [Act.put, List.setIfInBounds_toArray, List.set_cons_zero, List.set_cons_succ]
          refine wpAnyH_take (i := 8) (oi := { dst := some 23, op := Go.Op.call { callee := Go.Callee.builtin Go.Builtin.max, args := #[Go.Operand.tmp 18, Go.Operand.tmp 22], argTypes := #[3, 3] }, type := 3, pos := "offset.go:132", after := #[{ on := 3, ground := Go.Ground.data }, { on := 7, ground := Go.Ground.data }], guard := none }) (v := ?_) rfl (by kernel_rfl) (by kernel_rfl) (by kernel_rfl) (fun _ _ _ h => h) (Or.inl ⟨by rfl, ?_⟩) (by assumption) ?_
          rotate_left
          · (intro w hSw; (try dsimp only at hSw); go_simp); try with_reducible rfl
          try simp only [Act.put, List.setIfInBounds_toArray, List.set_cons_zero, List.set_cons_succ]
          refine wpAnyH_take (i := 9) (oi := { dst := some 24, op := Go.Op.move (Go.Operand.tmp 0), type := 58, pos := "offset.go:132", after := #[], guard := none }) (v := ?_) rfl (by kernel_rfl) (by kernel_rfl) (by kernel_rfl) (fun _ _ _ h => h) (Or.inl ⟨by rfl, ?_⟩) (by assumption) ?_
          rotate_left
          · (intro w hSw; (try dsimp only at hSw); go_simp); try with_reducible rfl
          try simp only [Act.put, List.setIfInBounds_toArray, List.set_cons_zero, List.set_cons_succ]
          refine wpAnyH_take (i := 10) (oi := { dst := some 25, op := Go.Op.indexAddr 58 (Go.Operand.tmp 24) (Go.Operand.const (Go.Value.int Go.IntKind.i64 0)), type := 0, pos := "offset.go:132", after := #[{ on := 9, ground := Go.Ground.data }], guard := none }) (v := ?_) rfl (by kernel_rfl) (by kernel_rfl) (by kernel_rfl) (fun _ _ _ h => h) (Or.inl ⟨by rfl, ?_⟩) (by assumption) ?_
          rotate_left
          · (intro w hSw; (try dsimp only at hSw); go_simp); try with_reducible rfl
          try simp only [Act.put, List.setIfInBounds_toArray, List.set_cons_zero, List.set_cons_succ]
          refine wpAnyH_take (i := 11) (oi := { dst := some 26, op := Go.Op.fieldAddr 63 (Go.Operand.tmp 25) 1, type := 0, pos := "offset.go:132", after := #[{ on := 10, ground := Go.Ground.data }], guard := none }) (v := ?_) rfl (by kernel_rfl) (by kernel_rfl) (by kernel_rfl) (fun _ _ _ h => h) (Or.inl ⟨by rfl, ?_⟩) (by assumption) ?_
          rotate_left
          · (intro w hSw; (try dsimp only at hSw); go_simp); try with_reducible rfl
          try simp only [Act.put, List.setIfInBounds_toArray, List.set_cons_zero, List.set_cons_succ]
          refine wpAnyH_take (i := 12) (oi := { dst := some 27, op := Go.Op.load 3 (Go.Operand.tmp 26), type := 3, pos := "offset.go:132", after := #[{ on := 11, ground := Go.Ground.data }], guard := none }) (v := ?_) rfl (by kernel_rfl) (by kernel_rfl) (by kernel_rfl) (fun _ _ _ h => h) (Or.inl ⟨by rfl, ?_⟩) (by assumption) ?_
          rotate_left
          · (intro w hSw; (try dsimp only at hSw); go_simp); try with_reducible rfl
          try simp only [Act.put, List.setIfInBounds_toArray, List.set_cons_zero, List.set_cons_succ]
          refine wpAnyH_take (i := 13) (oi := { dst := some 28, op := Go.Op.move (Go.Operand.tmp 1), type := 22, pos := "offset.go:132", after := #[], guard := none }) (v := ?_) rfl (by kernel_rfl) (by kernel_rfl) (by kernel_rfl) (fun _ _ _ h => h) (Or.inl ⟨by rfl, ?_⟩) (by assumption) ?_
          rotate_left
          · (intro w hSw; (try dsimp only at hSw); go_simp); try with_reducible rfl
          try simp only [Act.put, List.setIfInBounds_toArray, List.set_cons_zero, List.set_cons_succ]
          refine wpAnyH_take (i := 14) (oi := { dst := some 29, op := Go.Op.indexAddr 22 (Go.Operand.tmp 28) (Go.Operand.const (Go.Value.int Go.IntKind.i64 0)), type := 0, pos := "offset.go:132", after := #[{ on := 13, ground := Go.Ground.data }], guard := none }) (v := ?_) rfl (by kernel_rfl) (by kernel_rfl) (by kernel_rfl) (fun _ _ _ h => h) (Or.inl ⟨by rfl, ?_⟩) (by assumption) ?_
          rotate_left
          · (intro w hSw; (try dsimp only at hSw); go_simp); try with_reducible rfl
          try simp only [Act.put, List.setIfInBounds_toArray, List.set_cons_zero, List.set_cons_succ]
          refine wpAnyH_take (i := 15) (oi := { dst := some 30, op := Go.Op.fieldAddr 41 (Go.Operand.tmp 29) 3, type := 0, pos := "offset.go:132", after := #[{ on := 14, ground := Go.Ground.data }], guard := none }) (v := ?_) rfl (by kernel_rfl) (by kernel_rfl) (by kernel_rfl) (fun _ _ _ h => h) (Or.inl ⟨by rfl, ?_⟩) (by assumption) ?_
          rotate_left
          · (intro w hSw; (try dsimp only at hSw); go_simp); try with_reducible rfl
          try simp only [Act.put, List.setIfInBounds_toArray, List.set_cons_zero, List.set_cons_succ]
          refine wpAnyH_take (i := 16) (oi := { dst := some 31, op := Go.Op.load 3 (Go.Operand.tmp 30), type := 3, pos := "offset.go:132", after := #[{ on := 15, ground := Go.Ground.data }], guard := none }) (v := ?_) rfl (by kernel_rfl) (by kernel_rfl) (by kernel_rfl) (fun _ _ _ h => h) (Or.inl ⟨by rfl, ?_⟩) (by assumption) ?_
          rotate_left
          · (intro w hSw; (try dsimp only at hSw); go_simp); try with_reducible rfl
          try simp only [Act.put, List.setIfInBounds_toArray, List.set_cons_zero, List.set_cons_succ]
          refine wpAnyH_take (i := 17) (oi := { dst := some 32, op := Go.Op.call { callee := Go.Callee.builtin Go.Builtin.min, args := #[Go.Operand.tmp 27, Go.Operand.tmp 31], argTypes := #[3, 3] }, type := 3, pos := "offset.go:132", after := #[{ on := 12, ground := Go.Ground.data }, { on := 16, ground := Go.Ground.data }], guard := none }) (v := ?_) rfl (by kernel_rfl) (by kernel_rfl) (by kernel_rfl) (fun _ _ _ h => h) (Or.inl ⟨by rfl, ?_⟩) (by assumption) ?_
          rotate_left
          · (intro w hSw; (try dsimp only at hSw); go_simp); try with_reducible rfl
          try simp only [Act.put, List.setIfInBounds_toArray, List.set_cons_zero, List.set_cons_succ]
          refine wpAnyH_take (i := 18) (oi := { dst := some 33, op := Go.Op.build 63 #[(0, Go.Operand.tmp 23), (1, Go.Operand.tmp 32)], type := 63, pos := "offset.go:132", after := #[{ on := 8, ground := Go.Ground.data }, { on := 17, ground := Go.Ground.data }], guard := none }) (v := ?_) rfl (by kernel_rfl) (by kernel_rfl) (by kernel_rfl) (fun _ _ _ h => h) (Or.inl ⟨by rfl, ?_⟩) (by assumption) ?_
          rotate_left
          · (intro w hSw; (try dsimp only at hSw); go_simp); try with_reducible rfl
          try simp only [Act.put, List.setIfInBounds_toArray, List.set_cons_zero, List.set_cons_succ]
          refine wpAnyH_ready (rs := [19]) (by kernel_rfl) (by simp) ?_
          refine AllReadyH.cons (o := { dst := some 6, op := Go.Op.alloc 63, type := 0, pos := "offset.go:132", after := #[], guard := none }) rfl (fun Kx hKx => ?_) AllReadyH.nil
          go_simp
          refine hKx.out _ _ (C4.go ‹_› ((Below.refl wr.drew.heap.size wr.drew).alloc (Nat.le_refl _) _)) (fun hHeld2 => ?_)
          clear hKx Kx hHeld
          have hHeld := hHeld2; clear hHeld2
          try simp only [Act.put, List.setIfInBounds_toArray, List.set_cons_zero, List.set_cons_succ]
          refine wpAnyH_ready (rs := [20]) (by kernel_rfl) (by simp) ?_
          refine AllReadyH.cons (o := { dst := none, op := Go.Op.store 63 (Go.Operand.tmp 6) (Go.Operand.tmp 33), type := 0, pos := "offset.go:132", after := #[{ on := 19, ground := Go.Ground.data }, { on := 18, ground := Go.Ground.data }, { on := 0, ground := Go.Ground.phase }, { on := 1, ground := Go.Ground.phase }, { on := 2, ground := Go.Ground.phase }, { on := 3, ground := Go.Ground.phase }, { on := 4, ground := Go.Ground.phase }, { on := 5, ground := Go.Ground.phase }, { on := 6, ground := Go.Ground.phase }, { on := 7, ground := Go.Ground.phase }, { on := 8, ground := Go.Ground.phase }, { on := 9, ground := Go.Ground.phase }, { on := 10, ground := Go.Ground.phase }, { on := 11, ground := Go.Ground.phase }, { on := 12, ground := Go.Ground.phase }, { on := 13, ground := Go.Ground.phase }, { on := 14, ground := Go.Ground.phase }, { on := 15, ground := Go.Ground.phase }, { on := 16, ground := Go.Ground.phase }, { on := 17, ground := Go.Ground.phase }, { on := 18, ground := Go.Ground.phase }, { on := 19, ground := Go.Ground.phase }], guard := none }) rfl (fun Kx hKx => ?_) AllReadyH.nil
          go_simp
          refine hKx.out _ _ (C4.drewN (C4.go E0.out ((Below.refl wr.heap.size wr).alloc (Nat.le_refl _) (.cells #[.int .i64 (max p0 u0), .int .i64 (min p1 u1)] 63))) 1) (fun hHeld2 => ?_)
          clear hKx Kx hHeld hHeld2
          refine wpAnyH_done (by kernel_rfl) ?_ _
          have z0 : (wr.alloc (.cells #[.int .i64 (max p0 u0), .int .i64 (min p1 u1)] 63)).drew.cell? ⟨wr.heap.size, 0, none⟩ = some (.int .i64 (max p0 u0)) := by simp
          have z1 : (wr.alloc (.cells #[.int .i64 (max p0 u0), .int .i64 (min p1 u1)] 63)).drew.cell? ⟨wr.heap.size, 1, none⟩ = some (.int .i64 (min p1 u1)) := by simp
          have HB3 : Below wr.heap.size wr (wr.alloc (.cells #[.int .i64 (max p0 u0), .int .i64 (min p1 u1)] 63)).drew := ((Below.refl _ _).alloc (Nat.le_refl _) _).drew
          have HO3 := Lib.hid (HO.out.go HB3)
          have hz3 : wr.heap.size < (wr.alloc (.cells #[.int .i64 (max p0 u0), .int .i64 (min p1 u1)] 63)).drew.heap.size := by simp
          generalize (wr.alloc (.cells #[.int .i64 (max p0 u0), .int .i64 (min p1 u1)] 63)).drew = w3 at *
          clear HB3 HO E0
          generalize wr.heap.size = g3 at *
          have hown3 := Lib.hid HO3.out.own
          have hbs3 := HO3.out.bel.size
          have hRl := HL.out
          go_wp2_with (at_builtin; refine wpList_append_own _ rfl _ _ 58 rfl w.heap.size 63 i0 (.agg #[.int .i64 0, .int .i64 0]) 2 16 Try.underlying58 hi9 hz0 hz1 hz2 rfl (by decide) _ _ _ rfl (hown3.out.alloc _) ⟨w3.heap.size, 0, none⟩ 1 1 [.int .i64 (max p0 u0), .int .i64 (min p1 u1)] rfl rfl ?d1 ?d2 ?d3 ?d4 ?d5 ?_)
          case d1 => exact World.news_of_block (cs := #[.int .i64 (max p0 u0), .int .i64 (min p1 u1)]) (t := 63) (fr := (0, 0)) (heap_alloc_new w3 _)
          case d2 => intro u hu; simp only [List.mem_cons, List.not_mem_nil, or_false] at hu; rcases hu with rfl | rfl <;> rfl
          case d3 => have := HSz.out; unfold maxLen; omega
          case d4 => have := HSz.out; omega
          case d5 => simp; omega
          intro v4 w4 hown4 hgr4 _
          obtain ⟨R4, hR4⟩ : ∃ R4, R4 = R ++ [(max p0 u0, min p1 u1)] := ⟨_, rfl⟩
          have HO4 : Hid (OwnS v4 R4 w w4) := Lib.hid ((HO3.out.go ((Below.refl _ _).alloc (Nat.le_refl _) _)).grown (by rw [hR4, scells_append, List.length_append]; exact hown4) hgr4)
          have HE4 : Hid (R4 ++ (if p1 < u1 then comS (P'.drop 1) (spansR l') else comS P' ((spansR l').drop 1)) = comS P (spansR l)) := Lib.hid (by rw [hR4, ← HE2.out, if_pos c]; simp)
          have HL4 : Hid (R4.length + P'.length + l'.length ≤ P.length + l.length + 1 ∧ R4.length + (P'.length - 1) + l'.length ≤ P.length + l.length ∧ R4.length + P'.length + (l'.length - 1) ≤ P.length + l.length) := Lib.hid (by rw [hR4, List.length_append, List.length_singleton]; omega)
          clear hown4 hgr4 hown3 HO3 hR4 HE2 z0 z1 hRl
          have wc := fun b o (h : b < w.heap.size) => HO4.out.bel.cell (p := ⟨b, o, none⟩) h
          have x1 := (wc _ _ hb1).trans HX.out.1; have y3 := (wc _ _ hb2).trans HX.out.2
          clear wc
          have zl := HO4.out.bel.size
          have hb1' := Nat.lt_of_lt_of_le hb1 zl; have hb2' := Nat.lt_of_lt_of_le hb2 zl
          by_cases c2 : p1 < u1
          · have HRS : Hid (R4 ++ comS (P'.drop 1) (spansR l') = comS P (spansR l)) := Lib.hid (by have h := HE4.out; rw [if_pos c2] at h; exact h)
            clear HE4
            go_wp2_with fail
            go_quiet (fail)
            by_cases hf : c1' = 1
            · have NR : Hid (SpRow w B (some ⟨b1, o1, none⟩) (P'.drop 1)) := Lib.hid (fun h0 => by rw [List.length_drop] at h0; omega)
              obtain rfl : c1' = 1 := hf
              have HZ : Hid ((P'.drop 1).length = 0) := Lib.hid (by rw [List.length_drop]; omega)
              go_wp2_with fail
              go_roundw
              case rel => exact ⟨_, _, P'.drop 1, _, _, l', _, R4, by first | rfl | rw [HZ.out] | rw [List.length_drop], by first | rfl | rw [HZ.out] | rw [List.length_drop], rfl, NR, HR, by first | assumption | (rw [List.length_drop]; omega), by omega, by first | assumption | (rw [List.length_drop]; omega), by omega, Lib.hid (HO4.out.go (below_drewN (Below.refl _ _) _)), HRS, Lib.hid (by have := HL4.out; simp only [List.length_drop]; omega)⟩
              case measure => simp; omega
            · have NR : Hid (SpRow w B (some ⟨b1, o1 + 1 * 2, none⟩) (P'.drop 1)) := Lib.hid (HP.out.drop 1)
              have s1 : (1 : Int) ≤ ((P'.length : Nat) : Int) := by omega
              have s2 : ((P'.length : Nat) : Int) ≤ (c1' : Int) := by omega
              go_wp2_with fail
              go_roundw
              case rel => exact ⟨_, _, P'.drop 1, _, _, l', _, R4, by first | rfl | rw [List.length_drop], by first | rfl | rw [List.length_drop], rfl, NR, HR, by first | assumption | (rw [List.length_drop]; omega), by omega, by first | assumption | (rw [List.length_drop]; omega), by omega, Lib.hid (HO4.out.go (below_drewN (Below.refl _ _) _)), HRS, Lib.hid (by have := HL4.out; simp only [List.length_drop]; omega)⟩
              case measure => simp; omega
          · have HRS : Hid (R4 ++ comS P' (spansR (l'.drop 1)) = comS P (spansR l)) := Lib.hid (by have h := HE4.out; rw [if_neg c2] at h; rw [spansR_drop]; exact h)
            clear HE4
            go_wp2_with fail
            go_quiet (fail)
            by_cases hf : c2' = 1
            · have NR : Hid (RRow w (some ⟨b2, o2, none⟩) (l'.drop 1)) := Lib.hid (fun h0 => by rw [List.length_drop] at h0; omega)
              obtain rfl : c2' = 1 := hf
              have HZ : Hid ((l'.drop 1).length = 0) := Lib.hid (by rw [List.length_drop]; omega)
              go_wp2_with fail
              go_roundw
              case rel => exact ⟨_, _, P', _, _, l'.drop 1, _, R4, by first | rfl | rw [HZ.out] | rw [List.length_drop], by first | rfl | rw [HZ.out] | rw [List.length_drop], rfl, HP, NR, by first | assumption | (rw [List.length_drop]; omega), by omega, by first | assumption | (rw [List.length_drop]; omega), by omega, Lib.hid (HO4.out.go (below_drewN (Below.refl _ _) _)), HRS, Lib.hid (by have := HL4.out; simp only [List.length_drop]; omega)⟩
              case measure => simp; omega
            · have NR : Hid (RRow w (some ⟨b2, o2 + 1 * 4, none⟩) (l'.drop 1)) := Lib.hid (HR.out.drop 1)
              have s1 : (1 : Int) ≤ ((l'.length : Nat) : Int) := by omega
              have s2 : ((l'.length : Nat) : Int) ≤ (c2' : Int) := by omega
              go_wp2_with fail
              go_roundw
              case rel => exact ⟨_, _, P', _, _, l'.drop 1, _, R4, by first | rfl | rw [List.length_drop], by first | rfl | rw [List.length_drop], rfl, HP, NR, by first | assumption | (rw [List.length_drop]; omega), by omega, by first | assumption | (rw [List.length_drop]; omega), by omega, Lib.hid (HO4.out.go (below_drewN (Below.refl _ _) _)), HRS, Lib.hid (by have := HL4.out; simp only [List.length_drop]; omega)⟩
              case measure => simp; omega
        · have E0 : Hid (C4 b1 o1 b2 o2 p0 p1 u0 u1 w wr) := Lib.hid ⟨x0, x1, y1, y3, hb1, hb2, Lib.hid HO.out.bel⟩
          have HX := Lib.hid (show w.cell? ⟨b1, o1 + 1, none⟩ = some (.int .i64 p1) ∧ w.cell? ⟨b2, o2 + 3, none⟩ = some (.int .i64 u1) from ⟨X1, Y3⟩)
          clear x0 x1 y1 y3 X1 Y3 hbs
          go_wp2_with fail
          refine wp_region_held_drew (S := fun w' => w'.cell? ⟨b1, o1, none⟩ = some (.int .i64 p0) ∧ w'.cell? ⟨b1, o1 + 1, none⟩ = some (.int .i64 p1) ∧ w'.cell? ⟨b2, o2 + 1, none⟩ = some (.int .i64 u0) ∧ w'.cell? ⟨b2, o2 + 3, none⟩ = some (.int .i64 u1) ∧ b1 < w.heap.size ∧ b2 < w.heap.size ∧ Hid (Below w.heap.size w w')) (by kernel_rfl) ?_ (fun hHeld => ?_)
          · exact C4.drewN E0.out 1
          refine wpAnyH_take (i := 0) (oi := { dst := some 15, op := Go.Op.move (Go.Operand.tmp 0), type := 58, pos := "offset.go:132", after := #[], guard := none }) (v := ?_) rfl (by kernel_rfl) (by kernel_rfl) (by kernel_rfl) (fun _ _ _ h => h) (Or.inl ⟨by rfl, ?_⟩) (by assumption) ?_
          rotate_left
          · (intro w hSw; (try dsimp only at hSw); go_simp); try with_reducible rfl
          try simp only [Act.put, List.setIfInBounds_toArray, List.set_cons_zero, List.set_cons_succ]
          refine wpAnyH_take (i := 1) (oi := { dst := some 16, op := Go.Op.indexAddr 58 (Go.Operand.tmp 15) (Go.Operand.const (Go.Value.int Go.IntKind.i64 0)), type := 0, pos := "offset.go:132", after := #[{ on := 0, ground := Go.Ground.data }], guard := none }) (v := ?_) rfl (by kernel_rfl) (by kernel_rfl) (by kernel_rfl) (fun _ _ _ h => h) (Or.inl ⟨by rfl, ?_⟩) (by assumption) ?_
          rotate_left
          · (intro w hSw; (try dsimp only at hSw); go_simp); try with_reducible rfl
          try simp only [Act.put, List.setIfInBounds_toArray, List.set_cons_zero, List.set_cons_succ]
          refine wpAnyH_take (i := 2) (oi := { dst := some 17, op := Go.Op.fieldAddr 63 (Go.Operand.tmp 16) 0, type := 0, pos := "offset.go:132", after := #[{ on := 1, ground := Go.Ground.data }], guard := none }) (v := ?_) rfl (by kernel_rfl) (by kernel_rfl) (by kernel_rfl) (fun _ _ _ h => h) (Or.inl ⟨by rfl, ?_⟩) (by assumption) ?_
          rotate_left
          · (intro w hSw; (try dsimp only at hSw); go_simp); try with_reducible rfl
          try simp only [Act.put, List.setIfInBounds_toArray, List.set_cons_zero, List.set_cons_succ]
          refine wpAnyH_take (i := 3) (oi := { dst := some 18, op := Go.Op.load 3 (Go.Operand.tmp 17), type := 3, pos := "offset.go:132", after := #[{ on := 2, ground := Go.Ground.data }], guard := none }) (v := ?_) rfl (by kernel_rfl) (by kernel_rfl) (by kernel_rfl) (fun _ _ _ h => h) (Or.inl ⟨by rfl, ?_⟩) (by assumption) ?_
          rotate_left
          · (intro w hSw; (try dsimp only at hSw); go_simp); try with_reducible rfl
          try simp only [Act.put, List.setIfInBounds_toArray, List.set_cons_zero, List.set_cons_succ]
          refine wpAnyH_take (i := 4) (oi := { dst := some 19, op := Go.Op.move (Go.Operand.tmp 1), type := 22, pos := "offset.go:132", after := #[], guard := none }) (v := ?_) rfl (by kernel_rfl) (by kernel_rfl) (by kernel_rfl) (fun _ _ _ h => h) (Or.inl ⟨by rfl, ?_⟩) (by assumption) ?_
          rotate_left
          · (intro w hSw; (try dsimp only at hSw); go_simp); try with_reducible rfl
          try simp only [Act.put, List.setIfInBounds_toArray, List.set_cons_zero, List.set_cons_succ]
          refine wpAnyH_take (i := 5) (oi := { dst := some 20, op := Go.Op.indexAddr 22 (Go.Operand.tmp 19) (Go.Operand.const (Go.Value.int Go.IntKind.i64 0)), type := 0, pos := "offset.go:132", after := #[{ on := 4, ground := Go.Ground.data }], guard := none }) (v := ?_) rfl (by kernel_rfl) (by kernel_rfl) (by kernel_rfl) (fun _ _ _ h => h) (Or.inl ⟨by rfl, ?_⟩) (by assumption) ?_
          rotate_left
          · (intro w hSw; (try dsimp only at hSw); go_simp); try with_reducible rfl
          try simp only [Act.put, List.setIfInBounds_toArray, List.set_cons_zero, List.set_cons_succ]
          refine wpAnyH_take (i := 6) (oi := { dst := some 21, op := Go.Op.fieldAddr 41 (Go.Operand.tmp 20) 1, type := 0, pos := "offset.go:132", after := #[{ on := 5, ground := Go.Ground.data }], guard := none }) (v := ?_) rfl (by kernel_rfl) (by kernel_rfl) (by kernel_rfl) (fun _ _ _ h => h) (Or.inl ⟨by rfl, ?_⟩) (by assumption) ?_
          rotate_left
          · (intro w hSw; (try dsimp only at hSw); go_simp); try with_reducible rfl
          try simp only [Act.put, List.setIfInBounds_toArray, List.set_cons_zero, List.set_cons_succ]
          refine wpAnyH_take (i := 7) (oi := { dst := some 22, op := Go.Op.load 3 (Go.Operand.tmp 21), type := 3, pos := "offset.go:132", after := #[{ on := 6, ground := Go.Ground.data }], guard := none }) (v := ?_) rfl (by kernel_rfl) (by kernel_rfl) (by kernel_rfl) (fun _ _ _ h => h) (Or.inl ⟨by rfl, ?_⟩) (by assumption) ?_
          rotate_left
          · (intro w hSw; (try dsimp only at hSw); go_simp); try with_reducible rfl
          try simp only [Act.put, List.setIfInBounds_toArray, List.set_cons_zero, List.set_cons_succ]
          refine wpAnyH_take (i := 8) (oi := { dst := some 23, op := Go.Op.call { callee := Go.Callee.builtin Go.Builtin.max, args := #[Go.Operand.tmp 18, Go.Operand.tmp 22], argTypes := #[3, 3] }, type := 3, pos := "offset.go:132", after := #[{ on := 3, ground := Go.Ground.data }, { on := 7, ground := Go.Ground.data }], guard := none }) (v := ?_) rfl (by kernel_rfl) (by kernel_rfl) (by kernel_rfl) (fun _ _ _ h => h) (Or.inl ⟨by rfl, ?_⟩) (by assumption) ?_
          rotate_left
          · (intro w hSw; (try dsimp only at hSw); go_simp); try with_reducible rfl
          try simp only [Act.put, List.setIfInBounds_toArray, List.set_cons_zero, List.set_cons_succ]
          refine wpAnyH_take (i := 9) (oi := { dst := some 24, op := Go.Op.move (Go.Operand.tmp 0), type := 58, pos := "offset.go:132", after := #[], guard := none }) (v := ?_) rfl (by kernel_rfl) (by kernel_rfl) (by kernel_rfl) (fun _ _ _ h => h) (Or.inl ⟨by rfl, ?_⟩) (by assumption) ?_
          rotate_left
          · (intro w hSw; (try dsimp only at hSw); go_simp); try with_reducible rfl
          try simp only [Act.put, List.setIfInBounds_toArray, List.set_cons_zero, List.set_cons_succ]
          refine wpAnyH_take (i := 10) (oi := { dst := some 25, op := Go.Op.indexAddr 58 (Go.Operand.tmp 24) (Go.Operand.const (Go.Value.int Go.IntKind.i64 0)), type := 0, pos := "offset.go:132", after := #[{ on := 9, ground := Go.Ground.data }], guard := none }) (v := ?_) rfl (by kernel_rfl) (by kernel_rfl) (by kernel_rfl) (fun _ _ _ h => h) (Or.inl ⟨by rfl, ?_⟩) (by assumption) ?_
          rotate_left
          · (intro w hSw; (try dsimp only at hSw); go_simp); try with_reducible rfl
          try simp only [Act.put, List.setIfInBounds_toArray, List.set_cons_zero, List.set_cons_succ]
          refine wpAnyH_take (i := 11) (oi := { dst := some 26, op := Go.Op.fieldAddr 63 (Go.Operand.tmp 25) 1, type := 0, pos := "offset.go:132", after := #[{ on := 10, ground := Go.Ground.data }], guard := none }) (v := ?_) rfl (by kernel_rfl) (by kernel_rfl) (by kernel_rfl) (fun _ _ _ h => h) (Or.inl ⟨by rfl, ?_⟩) (by assumption) ?_
          rotate_left
          · (intro w hSw; (try dsimp only at hSw); go_simp); try with_reducible rfl
          try simp only [Act.put, List.setIfInBounds_toArray, List.set_cons_zero, List.set_cons_succ]
          refine wpAnyH_take (i := 12) (oi := { dst := some 27, op := Go.Op.load 3 (Go.Operand.tmp 26), type := 3, pos := "offset.go:132", after := #[{ on := 11, ground := Go.Ground.data }], guard := none }) (v := ?_) rfl (by kernel_rfl) (by kernel_rfl) (by kernel_rfl) (fun _ _ _ h => h) (Or.inl ⟨by rfl, ?_⟩) (by assumption) ?_
          rotate_left
          · (intro w hSw; (try dsimp only at hSw); go_simp); try with_reducible rfl
          try simp only [Act.put, List.setIfInBounds_toArray, List.set_cons_zero, List.set_cons_succ]
          refine wpAnyH_take (i := 13) (oi := { dst := some 28, op := Go.Op.move (Go.Operand.tmp 1), type := 22, pos := "offset.go:132", after := #[], guard := none }) (v := ?_) rfl (by kernel_rfl) (by kernel_rfl) (by kernel_rfl) (fun _ _ _ h => h) (Or.inl ⟨by rfl, ?_⟩) (by assumption) ?_
          rotate_left
          · (intro w hSw; (try dsimp only at hSw); go_simp); try with_reducible rfl
          try simp only [Act.put, List.setIfInBounds_toArray, List.set_cons_zero, List.set_cons_succ]
          refine wpAnyH_take (i := 14) (oi := { dst := some 29, op := Go.Op.indexAddr 22 (Go.Operand.tmp 28) (Go.Operand.const (Go.Value.int Go.IntKind.i64 0)), type := 0, pos := "offset.go:132", after := #[{ on := 13, ground := Go.Ground.data }], guard := none }) (v := ?_) rfl (by kernel_rfl) (by kernel_rfl) (by kernel_rfl) (fun _ _ _ h => h) (Or.inl ⟨by rfl, ?_⟩) (by assumption) ?_
          rotate_left
          · (intro w hSw; (try dsimp only at hSw); go_simp); try with_reducible rfl
          try simp only [Act.put, List.setIfInBounds_toArray, List.set_cons_zero, List.set_cons_succ]
          refine wpAnyH_take (i := 15) (oi := { dst := some 30, op := Go.Op.fieldAddr 41 (Go.Operand.tmp 29) 3, type := 0, pos := "offset.go:132", after := #[{ on := 14, ground := Go.Ground.data }], guard := none }) (v := ?_) rfl (by kernel_rfl) (by kernel_rfl) (by kernel_rfl) (fun _ _ _ h => h) (Or.inl ⟨by rfl, ?_⟩) (by assumption) ?_
          rotate_left
          · (intro w hSw; (try dsimp only at hSw); go_simp); try with_reducible rfl
          try simp only [Act.put, List.setIfInBounds_toArray, List.set_cons_zero, List.set_cons_succ]
          refine wpAnyH_take (i := 16) (oi := { dst := some 31, op := Go.Op.load 3 (Go.Operand.tmp 30), type := 3, pos := "offset.go:132", after := #[{ on := 15, ground := Go.Ground.data }], guard := none }) (v := ?_) rfl (by kernel_rfl) (by kernel_rfl) (by kernel_rfl) (fun _ _ _ h => h) (Or.inl ⟨by rfl, ?_⟩) (by assumption) ?_
          rotate_left
          · (intro w hSw; (try dsimp only at hSw); go_simp); try with_reducible rfl
          try simp only [Act.put, List.setIfInBounds_toArray, List.set_cons_zero, List.set_cons_succ]
          refine wpAnyH_take (i := 17) (oi := { dst := some 32, op := Go.Op.call { callee := Go.Callee.builtin Go.Builtin.min, args := #[Go.Operand.tmp 27, Go.Operand.tmp 31], argTypes := #[3, 3] }, type := 3, pos := "offset.go:132", after := #[{ on := 12, ground := Go.Ground.data }, { on := 16, ground := Go.Ground.data }], guard := none }) (v := ?_) rfl (by kernel_rfl) (by kernel_rfl) (by kernel_rfl) (fun _ _ _ h => h) (Or.inl ⟨by rfl, ?_⟩) (by assumption) ?_
          rotate_left
          · (intro w hSw; (try dsimp only at hSw); go_simp); try with_reducible rfl
          try simp only [Act.put, List.setIfInBounds_toArray, List.set_cons_zero, List.set_cons_succ]
          refine wpAnyH_take (i := 18) (oi := { dst := some 33, op := Go.Op.build 63 #[(0, Go.Operand.tmp 23), (1, Go.Operand.tmp 32)], type := 63, pos := "offset.go:132", after := #[{ on := 8, ground := Go.Ground.data }, { on := 17, ground := Go.Ground.data }], guard := none }) (v := ?_) rfl (by kernel_rfl) (by kernel_rfl) (by kernel_rfl) (fun _ _ _ h => h) (Or.inl ⟨by rfl, ?_⟩) (by assumption) ?_
          rotate_left
          · (intro w hSw; (try dsimp only at hSw); go_simp); try with_reducible rfl
          try simp only [Act.put, List.setIfInBounds_toArray, List.set_cons_zero, List.set_cons_succ]
          refine wpAnyH_ready (rs := [19]) (by kernel_rfl) (by simp) ?_
          refine AllReadyH.cons (o := { dst := some 6, op := Go.Op.alloc 63, type := 0, pos := "offset.go:132", after := #[], guard := none }) rfl (fun Kx hKx => ?_) AllReadyH.nil
          go_simp
          refine hKx.out _ _ (C4.go ‹_› ((Below.refl wr.drew.heap.size wr.drew).alloc (Nat.le_refl _) _)) (fun hHeld2 => ?_)
          clear hKx Kx hHeld
          have hHeld := hHeld2; clear hHeld2
          try simp only [Act.put, List.setIfInBounds_toArray, List.set_cons_zero, List.set_cons_succ]
          refine wpAnyH_ready (rs := [20]) (by kernel_rfl) (by simp) ?_
          refine AllReadyH.cons (o := { dst := none, op := Go.Op.store 63 (Go.Operand.tmp 6) (Go.Operand.tmp 33), type := 0, pos := "offset.go:132", after := #[{ on := 19, ground := Go.Ground.data }, { on := 18, ground := Go.Ground.data }, { on := 0, ground := Go.Ground.phase }, { on := 1, ground := Go.Ground.phase }, { on := 2, ground := Go.Ground.phase }, { on := 3, ground := Go.Ground.phase }, { on := 4, ground := Go.Ground.phase }, { on := 5, ground := Go.Ground.phase }, { on := 6, ground := Go.Ground.phase }, { on := 7, ground := Go.Ground.phase }, { on := 8, ground := Go.Ground.phase }, { on := 9, ground := Go.Ground.phase }, { on := 10, ground := Go.Ground.phase }, { on := 11, ground := Go.Ground.phase }, { on := 12, ground := Go.Ground.phase }, { on := 13, ground := Go.Ground.phase }, { on := 14, ground := Go.Ground.phase }, { on := 15, ground := Go.Ground.phase }, { on := 16, ground := Go.Ground.phase }, { on := 17, ground := Go.Ground.phase }, { on := 18, ground := Go.Ground.phase }, { on := 19, ground := Go.Ground.phase }], guard := none }) rfl (fun Kx hKx => ?_) AllReadyH.nil
          go_simp
          refine hKx.out _ _ (C4.drewN (C4.go E0.out ((Below.refl wr.heap.size wr).alloc (Nat.le_refl _) (.cells #[.int .i64 (max p0 u0), .int .i64 (min p1 u1)] 63))) 1) (fun hHeld2 => ?_)
          clear hKx Kx hHeld hHeld2
          refine wpAnyH_done (by kernel_rfl) ?_ _
          have z0 : (wr.alloc (.cells #[.int .i64 (max p0 u0), .int .i64 (min p1 u1)] 63)).drew.cell? ⟨wr.heap.size, 0, none⟩ = some (.int .i64 (max p0 u0)) := by simp
          have z1 : (wr.alloc (.cells #[.int .i64 (max p0 u0), .int .i64 (min p1 u1)] 63)).drew.cell? ⟨wr.heap.size, 1, none⟩ = some (.int .i64 (min p1 u1)) := by simp
          have HB3 : Below wr.heap.size wr (wr.alloc (.cells #[.int .i64 (max p0 u0), .int .i64 (min p1 u1)] 63)).drew := ((Below.refl _ _).alloc (Nat.le_refl _) _).drew
          have HO3 := Lib.hid (HO.out.go HB3)
          have hz3 : wr.heap.size < (wr.alloc (.cells #[.int .i64 (max p0 u0), .int .i64 (min p1 u1)] 63)).drew.heap.size := by simp
          generalize (wr.alloc (.cells #[.int .i64 (max p0 u0), .int .i64 (min p1 u1)] 63)).drew = w3 at *
          clear HB3 HO E0
          generalize wr.heap.size = g3 at *
          skip
          obtain ⟨R4, hR4⟩ : ∃ R4, R4 = R := ⟨_, rfl⟩
          obtain ⟨v4, hv4⟩ : ∃ v4, v4 = v0 := ⟨_, rfl⟩
          obtain ⟨w4, hw4⟩ : ∃ w4, w4 = w3 := ⟨_, rfl⟩
          have HO4 : Hid (OwnS v0 R4 w w3) := Lib.hid (by rw [hR4]; exact HO3.out)
          have HE4 : Hid (R4 ++ (if p1 < u1 then comS (P'.drop 1) (spansR l') else comS P' ((spansR l').drop 1)) = comS P (spansR l)) := Lib.hid (by rw [hR4, ← HE2.out, if_neg (by omega : ¬ max p0 u0 < min p1 u1)]; simp)
          have HL4 : Hid (R4.length + P'.length + l'.length ≤ P.length + l.length + 1 ∧ R4.length + (P'.length - 1) + l'.length ≤ P.length + l.length ∧ R4.length + P'.length + (l'.length - 1) ≤ P.length + l.length) := Lib.hid (by have := HL.out; rw [hR4]; omega)
          clear hv4 hw4 v4 w4
          have wc := fun b o (h : b < w.heap.size) => HO4.out.bel.cell (p := ⟨b, o, none⟩) h
          have x1 := (wc _ _ hb1).trans HX.out.1; have y3 := (wc _ _ hb2).trans HX.out.2
          clear wc
          have zl := HO4.out.bel.size
          have hb1' := Nat.lt_of_lt_of_le hb1 zl; have hb2' := Nat.lt_of_lt_of_le hb2 zl
          by_cases c2 : p1 < u1
          · have HRS : Hid (R4 ++ comS (P'.drop 1) (spansR l') = comS P (spansR l)) := Lib.hid (by have h := HE4.out; rw [if_pos c2] at h; exact h)
            clear HE4
            go_wp2_with fail
            go_quiet (fail)
            by_cases hf : c1' = 1
            · have NR : Hid (SpRow w B (some ⟨b1, o1, none⟩) (P'.drop 1)) := Lib.hid (fun h0 => by rw [List.length_drop] at h0; omega)
              obtain rfl : c1' = 1 := hf
              have HZ : Hid ((P'.drop 1).length = 0) := Lib.hid (by rw [List.length_drop]; omega)
              go_wp2_with fail
              go_roundw
              case rel => exact ⟨_, _, P'.drop 1, _, _, l', _, R4, by first | rfl | rw [HZ.out] | rw [List.length_drop], by first | rfl | rw [HZ.out] | rw [List.length_drop], rfl, NR, HR, by first | assumption | (rw [List.length_drop]; omega), by omega, by first | assumption | (rw [List.length_drop]; omega), by omega, Lib.hid (HO4.out.go (below_drewN (Below.refl _ _) _)), HRS, Lib.hid (by have := HL4.out; simp only [List.length_drop]; omega)⟩
              case measure => simp; omega
            · have NR : Hid (SpRow w B (some ⟨b1, o1 + 1 * 2, none⟩) (P'.drop 1)) := Lib.hid (HP.out.drop 1)
              have s1 : (1 : Int) ≤ ((P'.length : Nat) : Int) := by omega
              have s2 : ((P'.length : Nat) : Int) ≤ (c1' : Int) := by omega
              go_wp2_with fail
              go_roundw
              case rel => exact ⟨_, _, P'.drop 1, _, _, l', _, R4, by first | rfl | rw [List.length_drop], by first | rfl | rw [List.length_drop], rfl, NR, HR, by first | assumption | (rw [List.length_drop]; omega), by omega, by first | assumption | (rw [List.length_drop]; omega), by omega, Lib.hid (HO4.out.go (below_drewN (Below.refl _ _) _)), HRS, Lib.hid (by have := HL4.out; simp only [List.length_drop]; omega)⟩
              case measure => simp; omega
          · have HRS : Hid (R4 ++ comS P' (spansR (l'.drop 1)) = comS P (spansR l)) := Lib.hid (by have h := HE4.out; rw [if_neg c2] at h; rw [spansR_drop]; exact h)
            clear HE4
            go_wp2_with fail
            go_quiet (fail)
            by_cases hf : c2' = 1
            · have NR : Hid (RRow w (some ⟨b2, o2, none⟩) (l'.drop 1)) := Lib.hid (fun h0 => by rw [List.length_drop] at h0; omega)
              obtain rfl : c2' = 1 := hf
              have HZ : Hid ((l'.drop 1).length = 0) := Lib.hid (by rw [List.length_drop]; omega)
              go_wp2_with fail
              go_roundw
              case rel => exact ⟨_, _, P', _, _, l'.drop 1, _, R4, by first | rfl | rw [HZ.out] | rw [List.length_drop], by first | rfl | rw [HZ.out] | rw [List.length_drop], rfl, HP, NR, by first | assumption | (rw [List.length_drop]; omega), by omega, by first | assumption | (rw [List.length_drop]; omega), by omega, Lib.hid (HO4.out.go (below_drewN (Below.refl _ _) _)), HRS, Lib.hid (by have := HL4.out; simp only [List.length_drop]; omega)⟩
              case measure => simp; omega
            · have NR : Hid (RRow w (some ⟨b2, o2 + 1 * 4, none⟩) (l'.drop 1)) := Lib.hid (HR.out.drop 1)
              have s1 : (1 : Int) ≤ ((l'.length : Nat) : Int) := by omega
              have s2 : ((l'.length : Nat) : Int) ≤ (c2' : Int) := by omega
              go_wp2_with fail
              go_roundw
              case rel => exact ⟨_, _, P', _, _, l'.drop 1, _, R4, by first | rfl | rw [List.length_drop], by first | rfl | rw [List.length_drop], rfl, HP, NR, by first | assumption | (rw [List.length_drop]; omega), by omega, by first | assumption | (rw [List.length_drop]; omega), by omega, Lib.hid (HO4.out.go (below_drewN (Below.refl _ _) _)), HRS, Lib.hid (by have := HL4.out; simp only [List.length_drop]; omega)⟩
              case measure => simp; omega
      · have r1 : (0 : Int) < (P'.length : Int) := by omega
        have r2 : ¬ (0 : Int) < (l'.length : Int) := by omega
        have e : comS P' (spansR l') = [] := by
          have := comS_end (P := P') (Q := spansR l') (i := 0) (j := 0) (Or.inr (by rw [spansR_len]; omega))
          simpa using this
        have hE := HE.out
        rw [e, List.append_nil] at hE
        have HE2 := Lib.hid hE; clear hE e HE
        go_wp2
        go_ret
        exact ⟨_, rfl, HE2.out ▸ HO.out.own, HO.out.bel⟩
    · have r1 : ¬ (0 : Int) < (P'.length : Int) := by omega
      have e : comS P' (spansR l') = [] := by
        have := comS_end (P := P') (Q := spansR l') (i := 0) (j := 0) (Or.inl (by omega))
        simpa using this
      have hE := HE.out
      rw [e, List.append_nil] at hE
      have HE2 := Lib.hid hE; clear hE e HE
      go_wp2
      go_ret
      exact ⟨_, rfl, HE2.out ▸ HO.out.own, HO.out.bel⟩
end Go.Proofs.Ytcnojedijimheaa
