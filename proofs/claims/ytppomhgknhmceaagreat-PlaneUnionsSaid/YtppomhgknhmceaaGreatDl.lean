/-
  Contracts of the program's layer 10, 6: the order of points, the library's cmp.Or and MinFunc over points.
  Contracts of the program's layer 10, 8: firstOutside.
-/
import Derived.Test.YtppomhgknhmceaaGreatHj
import Derived.Test.YtppomhgknhmceaaGreatWs
import Derived.Lib.MinMax
import Derived.Deep.RegionHeld3
import Derived.Lib.AppendIntMem
import Derived.Test.YtppomhgknhmceaaGreatDc
import Derived.Test.YtppomhgknhmceaaGreatHv
import Derived.Deep.AppendLies
set_option linter.unusedVariables false
set_option maxRecDepth 100000
namespace Go.Proofs.YtppomhgknhmceaaGreat
open Go.RowKit

structure Pt where
  X : Int
  Y : Int
deriving DecidableEq, Inhabited
def ptv (p : Pt) : Value := .agg #[.int .i64 p.X, .int .i64 p.Y]
def pcells (l : List Pt) : List Value := l.flatMap fun p => [.int .i64 p.X, .int .i64 p.Y]
/-- a list of points at an address. -/
def PRow (w : World) (A : Option Addr) (l : List Pt) : Prop := 0 < l.length → ∃ b off, A = some ⟨b, off, none⟩ ∧ b < w.heap.size ∧ ∀ j (h : j < l.length), w.cell? ⟨b, off + j * 2, none⟩ = some (.int .i64 l[j].X) ∧ w.cell? ⟨b, off + j * 2 + 1, none⟩ = some (.int .i64 l[j].Y)
theorem PRow.below {w w' : World} {A : Option Addr} {l : List Pt} (h : PRow w A l) (hb : Below w.heap.size w w') : PRow w' A l := fun h0 => by
  obtain ⟨b, off, rfl, hl, hc⟩ := h h0
  exact ⟨b, off, rfl, Nat.lt_of_lt_of_le hl hb.size, fun j hj => ⟨(hb.cell (p := ⟨b, off + j * 2, none⟩) hl).trans (hc j hj).1, (hb.cell (p := ⟨b, off + j * 2 + 1, none⟩) hl).trans (hc j hj).2⟩⟩
theorem PRow.nil (w : World) (A : Option Addr) : PRow w A [] := fun h => absurd h (by simp)
/-- cmp.Or of two numbers. -/
def orI (x y : Int) : Int := if x = 0 then y else x
theorem or_any (b : Nat) (x y : Int) (w : World) (h0 : w.cell? ⟨b, 0, none⟩ = some (.int .i64 x)) (h1 : w.cell? ⟨b, 1, none⟩ = some (.int .i64 y)) (hb : b < w.heap.size) :
    Calls Tryz.prog 113 #[.slice (some ⟨b, 0, none⟩) 2 2] w fun e w' => e = .returned (.int .i64 (orI x y)) ∧ w' = w := by
  unfold orI
  by_cases c : x = 0
  · subst c
    by_cases d : y = 0
    · subst d
      go_enter Tryz.func113, Tryz.ntmps113
      go_wp2
      go_loopw [5, 8] (fun _ i wr => ∃ k : Nat, k ≤ 2 ∧ i = .int .i64 k ∧ wr = w) (fun _ i _ => 2 - (intOf i).toNat)
      case atStart => exact ⟨0, Nat.zero_le _, rfl, rfl⟩
      case round =>
        obtain ⟨k, hk, rfl, rfl⟩ := hrel
        by_cases e0 : k = 0
        · subst e0
          go_wp2
          go_roundw
          case rel => exact ⟨1, by omega, by go_num, by first | trivial | rfl⟩
          case measure => simp [intOf]
        · by_cases e1 : k = 1
          · subst e1
            go_wp2
            go_roundw
            case rel => exact ⟨2, by omega, by go_num, by first | trivial | rfl⟩
            case measure => simp [intOf]
          · obtain rfl : k = 2 := by omega
            go_wp2
            go_ret
            exact ⟨rfl, rfl⟩
    · have q1 : (y != 0) = true := by simp [d]
      go_enter Tryz.func113, Tryz.ntmps113
      go_wp2
      go_loopw [5, 8] (fun _ i wr => ∃ k : Nat, k ≤ 1 ∧ i = .int .i64 k ∧ wr = w) (fun _ i _ => 2 - (intOf i).toNat)
      case atStart => exact ⟨0, Nat.zero_le _, rfl, rfl⟩
      case round =>
        obtain ⟨k, hk, rfl, rfl⟩ := hrel
        by_cases e0 : k = 0
        · subst e0
          go_wp2
          go_roundw
          case rel => exact ⟨1, by omega, by go_num, by first | trivial | rfl⟩
          case measure => simp [intOf]
        · obtain rfl : k = 1 := by omega
          go_wp2
          go_ret
          exact ⟨rfl, rfl⟩
  · have q1 : (x != 0) = true := by simp [c]
    go_enter Tryz.func113, Tryz.ntmps113
    go_wp2
    go_loopw [5, 8] (fun _ i wr => ∃ k : Nat, k ≤ 0 ∧ i = .int .i64 k ∧ wr = w) (fun _ i _ => 2 - (intOf i).toNat)
    case atStart => exact ⟨0, Nat.zero_le _, rfl, rfl⟩
    case round =>
      obtain ⟨k, hk, rfl, rfl⟩ := hrel
      obtain rfl : k = 0 := by omega
      go_wp2
      go_ret
      first | exact ⟨rfl, rfl⟩ | exact ⟨by rw [if_neg c]; rfl, rfl⟩
/-- w' is w, gone on by draws and new memory alone. -/
def CmpG (w w' : World) : Prop := ∃ q os, w' = Sort.grow (w.drewN q) os
theorem CmpG.refl (w : World) : CmpG w w := ⟨0, #[], by simp [Sort.grow, World.drewN]⟩
theorem CmpG.drewN {w w' : World} (h : CmpG w w') (n : Nat) : CmpG w (w'.drewN n) := by
  obtain ⟨q, os, rfl⟩ := h
  exact ⟨q + n, os, by simp [Sort.grow, World.drewN, Nat.add_assoc]⟩
theorem CmpG.alloc {w w' : World} (h : CmpG w w') (o : Obj) : CmpG w (w'.alloc o) := by
  obtain ⟨q, os, rfl⟩ := h
  exact ⟨q, os ++ #[o], by rw [Sort.alloc_eq_grow, Sort.grow_grow]⟩
theorem CmpG.below {w w' : World} (h : CmpG w w') : Below w.heap.size w w' := by
  obtain ⟨q, os, rfl⟩ := h
  exact Lib.below_grow _ _ (Nat.le_refl _) _ _
def Cq (b : Nat) (p q : Pt) (W w : World) : Prop := w.cell? ⟨b, 0, none⟩ = some (.int .i64 p.X) ∧ w.cell? ⟨b, 1, none⟩ = some (.int .i64 p.Y) ∧ w.cell? ⟨b + 1, 0, none⟩ = some (.int .i64 q.X) ∧ w.cell? ⟨b + 1, 1, none⟩ = some (.int .i64 q.Y) ∧ b < w.heap.size ∧ b + 1 < w.heap.size ∧ Hid (CmpG W w)
theorem Cq.go {b : Nat} {p q : Pt} {W w w' : World} (h : Cq b p q W w) (hb : Below w.heap.size w w') (hc : CmpG W w') : Cq b p q W w' := by
  obtain ⟨x, y, u, v, l1, l2, _⟩ := h
  exact ⟨(hb.cell (p := ⟨b, 0, none⟩) l1).trans x, (hb.cell (p := ⟨b, 1, none⟩) l1).trans y, (hb.cell (p := ⟨b + 1, 0, none⟩) l2).trans u, (hb.cell (p := ⟨b + 1, 1, none⟩) l2).trans v, Nat.lt_of_lt_of_le l1 hb.size, Nat.lt_of_lt_of_le l2 hb.size, Lib.hid hc⟩
theorem Cq.drewN {b : Nat} {p q : Pt} {W w : World} (h : Cq b p q W w) (n : Nat) : Cq b p q W (w.drewN n) := h.go (below_drewN (Below.refl _ _) n) (h.2.2.2.2.2.2.out.drewN n)
theorem Cq.alloc {b : Nat} {p q : Pt} {W w : World} (h : Cq b p q W w) (o : Obj) : Cq b p q W (w.alloc o) := h.go ((Below.refl _ _).alloc (Nat.le_refl _) o) (h.2.2.2.2.2.2.out.alloc o)
theorem Cq.eq {b : Nat} {p q : Pt} {W w w' : World} (h : Cq b p q W w) (e : w' = w) : Cq b p q W w' := by subst e; exact h
def cmpP (p q : Pt) : Int := orI (Lib.compareInt p.X q.X) (Lib.compareInt p.Y q.Y)
set_option maxHeartbeats 8000000 in
theorem compare_any (p q : Pt) (w : World) : Calls Tryz.prog 112 #[.agg #[.int .i64 p.X, .int .i64 p.Y], .agg #[.int .i64 q.X, .int .i64 q.Y]] w fun e w' => e = .returned (.int .i64 (cmpP p q)) ∧ CmpG w w' := by
  unfold cmpP
  have hc1 := fun W' => Go.Proofs.Tryz.cmp_Compare_int p.X q.X W'
  have hc2 := fun W' => Go.Proofs.Tryz.cmp_Compare_int p.Y q.Y W'
  generalize Lib.compareInt p.X q.X = r1 at *
  generalize Lib.compareInt p.Y q.Y = r2 at *
  have E0 : Hid (Cq w.heap.size p q w ((w.alloc (.cells #[.int .i64 p.X, .int .i64 p.Y] 82)).alloc (.cells #[.int .i64 q.X, .int .i64 q.Y] 82))) := Lib.hid (by
    refine ⟨by simp, by simp, by simp, by simp, by simp <;> omega, by simp, Lib.hid (((CmpG.refl w).alloc _).alloc _)⟩)
  go_enter Tryz.func112, Tryz.ntmps112
  go_wp2_with fail
  generalize World.alloc (World.alloc w _) _ = wB at *
  generalize w.heap.size = g at *
  refine wp_region_held_drew (S := fun w' => w'.cell? ⟨g, 0, none⟩ = some (.int .i64 p.X) ∧ w'.cell? ⟨g, 1, none⟩ = some (.int .i64 p.Y) ∧ w'.cell? ⟨g + 1, 0, none⟩ = some (.int .i64 q.X) ∧ w'.cell? ⟨g + 1, 1, none⟩ = some (.int .i64 q.Y) ∧ g < w'.heap.size ∧ g + 1 < w'.heap.size ∧ Hid (CmpG w w')) (by kernel_rfl) ?_ (fun hHeld => ?_)
  · exact Cq.drewN E0.out 1
  refine wpAnyH_take (i := 0) (oi := { dst := some 5, op := Go.Op.fieldAddr 82 (Go.Operand.tmp 2) 0, type := 0, pos := "plane.go:154", after := #[], guard := none }) (v := ?_) rfl (by kernel_rfl) (by kernel_rfl) (by kernel_rfl) (fun _ _ _ h => h) (Or.inl ⟨by rfl, ?_⟩) (by assumption) ?_
  rotate_left
  · (intro w hSw; (try dsimp only at hSw); go_simp); try with_reducible rfl
  try simp only [Act.put, List.setIfInBounds_toArray, List.set_cons_zero, List.set_cons_succ]
  refine wpAnyH_take (i := 1) (oi := { dst := some 6, op := Go.Op.load 3 (Go.Operand.tmp 5), type := 3, pos := "plane.go:154", after := #[{ on := 0, ground := Go.Ground.data }], guard := none }) (v := ?_) rfl (by kernel_rfl) (by kernel_rfl) (by kernel_rfl) (fun _ _ _ h => h) (Or.inl ⟨by rfl, ?_⟩) (by assumption) ?_
  rotate_left
  · (intro w hSw; (try dsimp only at hSw); go_simp); try with_reducible rfl
  try simp only [Act.put, List.setIfInBounds_toArray, List.set_cons_zero, List.set_cons_succ]
  refine wpAnyH_take (i := 2) (oi := { dst := some 7, op := Go.Op.fieldAddr 82 (Go.Operand.tmp 3) 0, type := 0, pos := "plane.go:154", after := #[], guard := none }) (v := ?_) rfl (by kernel_rfl) (by kernel_rfl) (by kernel_rfl) (fun _ _ _ h => h) (Or.inl ⟨by rfl, ?_⟩) (by assumption) ?_
  rotate_left
  · (intro w hSw; (try dsimp only at hSw); go_simp); try with_reducible rfl
  try simp only [Act.put, List.setIfInBounds_toArray, List.set_cons_zero, List.set_cons_succ]
  refine wpAnyH_take (i := 3) (oi := { dst := some 8, op := Go.Op.load 3 (Go.Operand.tmp 7), type := 3, pos := "plane.go:154", after := #[{ on := 2, ground := Go.Ground.data }], guard := none }) (v := ?_) rfl (by kernel_rfl) (by kernel_rfl) (by kernel_rfl) (fun _ _ _ h => h) (Or.inl ⟨by rfl, ?_⟩) (by assumption) ?_
  rotate_left
  · (intro w hSw; (try dsimp only at hSw); go_simp); try with_reducible rfl
  try simp only [Act.put, List.setIfInBounds_toArray, List.set_cons_zero, List.set_cons_succ]
  refine wpAnyH_take (i := 5) (oi := { dst := some 10, op := Go.Op.fieldAddr 82 (Go.Operand.tmp 2) 1, type := 0, pos := "plane.go:154", after := #[], guard := none }) (v := ?_) rfl (by kernel_rfl) (by kernel_rfl) (by kernel_rfl) (fun _ _ _ h => h) (Or.inl ⟨by rfl, ?_⟩) (by assumption) ?_
  rotate_left
  · (intro w hSw; (try dsimp only at hSw); go_simp); try with_reducible rfl
  try simp only [Act.put, List.setIfInBounds_toArray, List.set_cons_zero, List.set_cons_succ]
  refine wpAnyH_take (i := 6) (oi := { dst := some 11, op := Go.Op.load 3 (Go.Operand.tmp 10), type := 3, pos := "plane.go:154", after := #[{ on := 5, ground := Go.Ground.data }], guard := none }) (v := ?_) rfl (by kernel_rfl) (by kernel_rfl) (by kernel_rfl) (fun _ _ _ h => h) (Or.inl ⟨by rfl, ?_⟩) (by assumption) ?_
  rotate_left
  · (intro w hSw; (try dsimp only at hSw); go_simp); try with_reducible rfl
  try simp only [Act.put, List.setIfInBounds_toArray, List.set_cons_zero, List.set_cons_succ]
  refine wpAnyH_take (i := 7) (oi := { dst := some 12, op := Go.Op.fieldAddr 82 (Go.Operand.tmp 3) 1, type := 0, pos := "plane.go:154", after := #[], guard := none }) (v := ?_) rfl (by kernel_rfl) (by kernel_rfl) (by kernel_rfl) (fun _ _ _ h => h) (Or.inl ⟨by rfl, ?_⟩) (by assumption) ?_
  rotate_left
  · (intro w hSw; (try dsimp only at hSw); go_simp); try with_reducible rfl
  try simp only [Act.put, List.setIfInBounds_toArray, List.set_cons_zero, List.set_cons_succ]
  refine wpAnyH_take (i := 8) (oi := { dst := some 13, op := Go.Op.load 3 (Go.Operand.tmp 12), type := 3, pos := "plane.go:154", after := #[{ on := 7, ground := Go.Ground.data }], guard := none }) (v := ?_) rfl (by kernel_rfl) (by kernel_rfl) (by kernel_rfl) (fun _ _ _ h => h) (Or.inl ⟨by rfl, ?_⟩) (by assumption) ?_
  rotate_left
  · (intro w hSw; (try dsimp only at hSw); go_simp); try with_reducible rfl
  try simp only [Act.put, List.setIfInBounds_toArray, List.set_cons_zero, List.set_cons_succ]
  refine wpAnyH_ready (rs := [4]) (by kernel_rfl) (by simp) ?_
  refine AllReadyH.cons (o := { dst := some 9, op := Go.Op.call { callee := Go.Callee.value (Go.Operand.func 114), args := #[Go.Operand.tmp 6, Go.Operand.tmp 8], argTypes := #[3, 3] }, type := 3, pos := "plane.go:154", after := #[{ on := 1, ground := Go.Ground.data }, { on := 3, ground := Go.Ground.data }], guard := none }) rfl (fun Kx hKx => ?_) AllReadyH.nil
  go_simp
  go_at_call 114
  refine (hc1 _).mono ?_
  rintro e w' ⟨rfl, hb⟩
  subst hb
  try go_wp2_with fail
  refine hKx.out _ _ hHeld (fun hHeld2 => ?_)
  clear hKx Kx hHeld
  have hHeld := hHeld2; clear hHeld2
  try simp only [Act.put, List.setIfInBounds_toArray, List.set_cons_zero, List.set_cons_succ]
  refine wpAnyH_ready (rs := [9]) (by kernel_rfl) (by simp) ?_
  refine AllReadyH.cons (o := { dst := some 14, op := Go.Op.call { callee := Go.Callee.value (Go.Operand.func 114), args := #[Go.Operand.tmp 11, Go.Operand.tmp 13], argTypes := #[3, 3] }, type := 3, pos := "plane.go:154", after := #[{ on := 6, ground := Go.Ground.data }, { on := 8, ground := Go.Ground.data }, { on := 4, ground := Go.Ground.chain }], guard := none }) rfl (fun Kx hKx => ?_) AllReadyH.nil
  go_simp
  go_at_call 114
  refine (hc2 _).mono ?_
  rintro e w' ⟨rfl, hb⟩
  subst hb
  try go_wp2_with fail
  refine hKx.out _ _ hHeld (fun hHeld2 => ?_)
  clear hKx Kx hHeld
  have hHeld := hHeld2; clear hHeld2
  try simp only [Act.put, List.setIfInBounds_toArray, List.set_cons_zero, List.set_cons_succ]
  refine wpAnyH_ready (rs := [10]) (by kernel_rfl) (by simp) ?_
  refine AllReadyH.cons (o := { dst := some 15, op := Go.Op.buildSlice 70 2 #[(0, Go.Operand.tmp 9), (1, Go.Operand.tmp 14)], type := 70, pos := "plane.go:154", after := #[{ on := 4, ground := Go.Ground.data }, { on := 9, ground := Go.Ground.data }], guard := none }) rfl (fun Kx hKx => ?_) AllReadyH.nil
  go_simp
  refine hKx.out _ _ (show Cq g p q w (World.alloc wB.drew (.cells #[.int .i64 r1, .int .i64 r2] 3)) from Cq.alloc hHeld _) (fun hHeld2 => ?_)
  clear hKx Kx hHeld
  have hHeld := hHeld2; clear hHeld2
  try simp only [Act.put, List.setIfInBounds_toArray, List.set_cons_zero, List.set_cons_succ]
  refine wpAnyH_ready (rs := [11]) (by kernel_rfl) (by simp) ?_
  refine AllReadyH.cons (o := { dst := some 16, op := Go.Op.call { callee := Go.Callee.value (Go.Operand.func 113), args := #[Go.Operand.tmp 15], argTypes := #[70] }, type := 3, pos := "plane.go:154", after := #[{ on := 10, ground := Go.Ground.data }, { on := 9, ground := Go.Ground.chain }], guard := none }) rfl (fun Kx hKx => ?_) AllReadyH.nil
  go_simp
  go_at_call 113
  refine (or_any _ r1 r2 _ (by simp) (by simp) (by simp)).mono ?_
  rintro e w' ⟨rfl, hb⟩
  subst hb
  try go_wp2_with fail
  refine hKx.out _ _ hHeld (fun hHeld2 => ?_)
  clear hKx Kx hHeld
  have hHeld := hHeld2; clear hHeld2
  try simp only [Act.put, List.setIfInBounds_toArray, List.set_cons_zero, List.set_cons_succ]
  refine wpAnyH_take (i := 12) (oi := { dst := some 4, op := Go.Op.assign (Go.Operand.tmp 16), type := 3, pos := "plane.go:154", after := #[{ on := 11, ground := Go.Ground.data }, { on := 11, ground := Go.Ground.chain }, { on := 0, ground := Go.Ground.phase }, { on := 1, ground := Go.Ground.phase }, { on := 2, ground := Go.Ground.phase }, { on := 3, ground := Go.Ground.phase }, { on := 4, ground := Go.Ground.phase }, { on := 5, ground := Go.Ground.phase }, { on := 6, ground := Go.Ground.phase }, { on := 7, ground := Go.Ground.phase }, { on := 8, ground := Go.Ground.phase }, { on := 9, ground := Go.Ground.phase }, { on := 10, ground := Go.Ground.phase }, { on := 11, ground := Go.Ground.phase }], guard := none }) (v := ?_) rfl (by kernel_rfl) (by kernel_rfl) (by kernel_rfl) (fun _ _ _ h => h) (Or.inl ⟨by rfl, ?_⟩) (by assumption) ?_
  rotate_left
  · (intro w hSw; (try dsimp only at hSw); go_simp); try with_reducible rfl
  try simp only [Act.put, List.setIfInBounds_toArray, List.set_cons_zero, List.set_cons_succ]
  refine wpAnyH_done (by kernel_rfl) ?_ _
  have FIN := hHeld.2.2.2.2.2.2
  clear hHeld
  go_wp2_with fail
  go_ret
  exact ⟨rfl, FIN.out⟩
/-- a list of points as it is handed in. -/
structure PIn (w : World) (A : Option Addr) (cap : Nat) (l : List Pt) : Prop where
  row : PRow w A l
  len : l.length ≤ 1099511627776
  room : l.length ≤ cap
  room2 : cap ≤ 9223372036854775807
theorem PIn.below {w w' : World} {A : Option Addr} {cap : Nat} {l : List Pt} (h : PIn w A cap l) (hb : Below w.heap.size w w') : PIn w' A cap l := ⟨h.row.below hb, h.len, h.room, h.room2⟩
/-! ### the order of points -/
def PLt (p q : Pt) : Prop := p.X < q.X ∨ p.X = q.X ∧ p.Y < q.Y
instance (p q : Pt) : Decidable (PLt p q) := by unfold PLt; infer_instance
theorem cmp_lt (p q : Pt) : cmpP p q < 0 ↔ PLt p q := by
  unfold cmpP orI Lib.compareInt PLt
  split <;> split <;> (try split) <;> (try split) <;> omega
theorem PLt.trans {p q r : Pt} (h : PLt p q) (k : PLt q r) : PLt p r := by unfold PLt at *; omega
/-- point k's cells, and the least one so far. -/
def Mq (b o g : Nat) (p m : Pt) (W w : World) : Prop := w.cell? ⟨b, o, none⟩ = some (.int .i64 p.X) ∧ w.cell? ⟨b, o + 1, none⟩ = some (.int .i64 p.Y) ∧ w.cell? ⟨g, 0, none⟩ = some (.int .i64 m.X) ∧ w.cell? ⟨g, 1, none⟩ = some (.int .i64 m.Y) ∧ b < w.heap.size ∧ g < w.heap.size ∧ Hid (Below W.heap.size W w)
theorem Mq.go {b o g : Nat} {p m : Pt} {W w w' : World} (h : Mq b o g p m W w) (hb : Below w.heap.size w w') : Mq b o g p m W w' := by
  obtain ⟨x, y, u, v, l1, l2, h3⟩ := h
  exact ⟨(hb.cell (p := ⟨b, o, none⟩) l1).trans x, (hb.cell (p := ⟨b, o + 1, none⟩) l1).trans y, (hb.cell (p := ⟨g, 0, none⟩) l2).trans u, (hb.cell (p := ⟨g, 1, none⟩) l2).trans v, Nat.lt_of_lt_of_le l1 hb.size, Nat.lt_of_lt_of_le l2 hb.size, Lib.hid (h3.out.trans (hb.mono h3.out.size))⟩
theorem Mq.drewN {b o g : Nat} {p m : Pt} {W w : World} (h : Mq b o g p m W w) (n : Nat) : Mq b o g p m W (w.drewN n) := h.go (below_drewN (Below.refl _ _) n)
/-- a point in a block of its own. -/
def PtAt (w : World) (b : Nat) (p : Pt) : Prop := w.heap[b]? = some (.cells #[.int .i64 p.X, .int .i64 p.Y] 82 (0, 0))
section
variable {w w' : World} {b : Nat} {r : Pt}
theorem PtAt.lt (h : PtAt w b r) : b < w.heap.size := (Array.getElem?_eq_some_iff.1 h).1
theorem PtAt.cell0 (h : PtAt w b r) : w.cell? ⟨b, 0, none⟩ = some (.int .i64 r.X) := by rw [Lib.cell_of_heap h]; rfl
theorem PtAt.cell1 (h : PtAt w b r) : w.cell? ⟨b, 1, none⟩ = some (.int .i64 r.Y) := by rw [Lib.cell_of_heap h]; rfl
theorem PtAt.froz (h : PtAt w b r) (i : Nat) : w.frozen? ⟨b, i, none⟩ = false := Lib.frozen_of_heap h i
theorem PtAt.below {B : Nat} (h : PtAt w b r) (hg : Below B w w') (hr : b < B) : PtAt w' b r := (hg.block b hr).trans h
theorem PtAt.new (w : World) (r : Pt) (k : Nat) (h : k = w.heap.size) : PtAt (w.alloc (.cells #[.int .i64 r.X, .int .i64 r.Y] 82)) k r := by subst h; exact heap_alloc_new w _
theorem PtAt.set {s : Pt} (h : PtAt w b r) {x y : Int} (h0 : x = s.X) (h1 : y = s.Y) : PtAt ((w.setCell ⟨b, 0, none⟩ (.int .i64 x)).setCell ⟨b, 1, none⟩ (.int .i64 y)) b s := by
  subst h0; subst h1
  unfold PtAt at h ⊢
  simp [World.setCell, Array.getElem?_modify, h]
theorem PtAt.far {c i : Nat} {v : Value} (h : PtAt w b r) (hc : b ≠ c) : PtAt (w.setCell ⟨c, i, none⟩ v) b r := by
  unfold PtAt at h ⊢
  simp [World.setCell, Array.getElem?_modify, h, hc.symm]
end
def zP : Pt := ⟨0, 0⟩
/-- the result's block, and the least point's so far. -/
def Out4 (p q : Nat) (s : Pt) (w0 w : World) : Prop := PtAt w p zP ∧ PtAt w q s ∧ Below w0.heap.size w0 w ∧ w0.heap.size ≤ p ∧ p < q
theorem Out4.go {p q : Nat} {s : Pt} {w0 w w' : World} (h : Out4 p q s w0 w) (hb : Below w.heap.size w w') : Out4 p q s w0 w' :=
  ⟨h.1.below hb h.1.lt, h.2.1.below hb h.2.1.lt, h.2.2.1.trans (hb.mono h.2.2.1.size), h.2.2.2⟩
theorem Out4.set {p q : Nat} {r s : Pt} {w0 w : World} (h : Out4 p q r w0 w) {x y : Int} (h0 : x = s.X) (h1 : y = s.Y) :
    Out4 p q s w0 ((w.setCell ⟨q, 0, none⟩ (.int .i64 x)).setCell ⟨q, 1, none⟩ (.int .i64 y)) :=
  ⟨(h.1.far (by have := h.2.2.2; omega)).far (by have := h.2.2.2; omega), h.2.1.set h0 h1,
    have hp := h.2.2.2; (h.2.2.1.setCell (by simp; omega) _).setCell (by simp; omega) _, h.2.2.2⟩
/-- a point of a list that none ahead of place k is less than. -/
structure MinAt (l : List Pt) (k : Nat) (m : Pt) : Prop where
  mem : m ∈ l
  le : ∀ j (h : j < l.length), j < k → ¬ PLt l[j] m
theorem MinAt.step {l : List Pt} {k : Nat} {m : Pt} (h : MinAt l k m) (hk : k < l.length) : MinAt l (k + 1) (if PLt l[k] m then l[k] else m) := by
  by_cases c : PLt l[k] m
  · rw [if_pos c]
    refine ⟨List.getElem_mem hk, fun j hj hjk => ?_⟩
    by_cases e : j < k
    · have := h.le j hj e
      unfold PLt at *; omega
    · obtain rfl : j = k := by omega
      unfold PLt; omega
  · rw [if_neg c]
    refine ⟨h.mem, fun j hj hjk => ?_⟩
    by_cases e : j < k
    · exact h.le j hj e
    · obtain rfl : j = k := by omega
      exact c
def MinIs (l : List Pt) (w : World) (e : Ending) (w' : World) : Prop := ∃ m : Pt, e = .returned (.agg #[.int .i64 m.X, .int .i64 m.Y]) ∧ MinAt l l.length m ∧ Below w.heap.size w w'
set_option maxHeartbeats 16000000 in
theorem pmin_any (A : Option Addr) (cap : Nat) (l : List Pt) (w : World) (hl : PIn w A cap l) (hpos : 0 < l.length) :
    Calls Tryz.prog 111 #[.slice A l.length cap, .func (.func 112) #[] #[]] w (MinIs l w) := by
  have HL := Lib.hid hl; clear hl
  obtain ⟨b1, o1, rfl, hb1, hv1⟩ := HL.out.row hpos
  obtain ⟨x0, x1⟩ := hv1 0 hpos
  rw [Nat.zero_mul, Nat.add_zero] at x0 x1
  have HV := Lib.hid hv1; have HB1 := Lib.hid hb1
  have hlen := HL.out.len
  have j0 : (0 : Int) < (l.length : Int) := by omega
  have j1 : ¬ (l.length : Int) < 1 := by omega
  obtain ⟨a, ha⟩ : ∃ a, a = l[0] := ⟨_, rfl⟩
  rw [← ha] at x0 x1
  have M1 : Hid (MinAt l 1 a) := Lib.hid ⟨by rw [ha]; exact List.getElem_mem hpos, fun j hj hj1 => by
    obtain rfl : j = 0 := by omega
    rw [← ha]
    unfold PLt; omega⟩
  have O1 : Hid (Out4 w.heap.size (w.heap.size + 1) a w ((w.alloc (.cells #[.int .i64 0, .int .i64 0] 82)).alloc (.cells #[.int .i64 a.X, .int .i64 a.Y] 82))) := Lib.hid
    ⟨(PtAt.new w zP _ rfl).below ((Below.refl _ _).alloc (Nat.le_refl _) _) (by simp), PtAt.new _ a _ (by simp), by (repeat' first | exact Below.refl _ _ | assumption | (apply below_drewN) | (refine Below.setCell ?_ (by (try simp); (try omega)) _) | (refine Below.alloc ?_ (by (try simp); (try omega)) _) | (refine Below.trans ?_ (Below.mono (Hid.out (by assumption)) (by (try simp); (try omega))))), Nat.le_refl _, Nat.lt_succ_self _⟩
  clear hv1 ha
  go_enter Tryz.func111, Tryz.ntmps111
  go_wp2_with fail
  clear x0 x1
  generalize World.alloc (World.alloc w _) _ = w2 at *
  generalize hg : w.heap.size = g at *
  have HG := Lib.hid hg; clear hg
  go_loopw [6] (fun i wr => ∃ (k : Nat) (m : Pt), 1 ≤ k ∧ k ≤ l.length ∧ i = .int .i64 k ∧ Hid (MinAt l k m) ∧ Hid (Out4 g (g + 1) m w wr)) (fun i _ => l.length - (intOf i).toNat)
  case atStart => exact ⟨1, a, Nat.le_refl _, hpos, rfl, M1, O1⟩
  case round =>
    clear M1 O1
    obtain ⟨k, m, hk1, hk, rfl, HM, HK⟩ := hrel
    by_cases hlt : k < l.length
    · obtain ⟨y0, y1⟩ := HV.out k hlt
      have wc := fun o => HK.out.2.2.1.cell (p := ⟨b1, o, none⟩) (show b1 < w.heap.size from by have := HB1.out; have := HG.out; omega)
      have y0 := (wc _).trans y0; have y1 := (wc _).trans y1
      have hbw : b1 < wr.heap.size := Nat.lt_of_lt_of_le (by have := HB1.out; have := HG.out; omega) HK.out.2.2.1.size
      clear wc
      have hi0 : (0 : Int) ≤ (k : Int) := by omega
      have hi1 : (k : Int) < (l.length : Int) := by omega
      have HS := Lib.hid (HM.out.step hlt)
      obtain ⟨u, hu⟩ : ∃ u, u = l[k] := ⟨_, rfl⟩
      rw [← hu] at y0 y1 HS
      have z0 := HK.out.2.1.cell0; have z1 := HK.out.2.1.cell1; have zl := HK.out.2.1.lt
      have E1 : Hid (Mq b1 (o1 + k * 2) (g + 1) u m wr wr) := Lib.hid ⟨y0, y1, z0, z1, hbw, zl, Lib.hid (Below.refl _ _)⟩
      have HC := Lib.hid (fun w' => (compare_any u m w').mono fun e w2 h => show e = .returned (.int .i64 (cmpP u m)) ∧ Below w'.heap.size w' w2 from ⟨h.1, h.2.below⟩)
      have HLT := Lib.hid (cmp_lt u m)
      generalize cmpP u m = cc at *
      clear hu y0 y1 z0 z1 zl hbw HM
      obtain ⟨wo, rfl⟩ : ∃ wo : World, wo = wr := ⟨_, rfl⟩
      by_cases c : cc < 0
      · rw [if_pos (HLT.out.1 c)] at HS
        have d0 : decide (cc < 0) = true := decide_eq_true c
        clear HLT
        go_wp2_with fail
        go_region_held3 (fun w' => w'.cell? ⟨b1, o1 + k * 2, none⟩ = some (.int .i64 u.X) ∧ w'.cell? ⟨b1, o1 + k * 2 + 1, none⟩ = some (.int .i64 u.Y) ∧ w'.cell? ⟨g + 1, 0, none⟩ = some (.int .i64 m.X) ∧ w'.cell? ⟨g + 1, 1, none⟩ = some (.int .i64 m.Y) ∧ b1 < w'.heap.size ∧ g + 1 < w'.heap.size ∧ Hid (Below wo.heap.size wo w'))
          (first | exact E1.out | exact Mq.drewN E1.out 1 | exact Mq.go ‹_› ‹_› | assumption)
          (first | (go_at_call 112; refine (HC.out _).mono ?_; rintro e w' ⟨rfl, hb⟩) | fail)
        have E2 : Mq b1 (o1 + k * 2) (g + 1) u m wo w' := by assumption
        have HK2 := Lib.hid (HK.out.go E2.2.2.2.2.2.2.out)
        clear E1 HK
        have y0 := E2.1; have y1 := E2.2.1; have bw := E2.2.2.2.2.1
        have z0 := HK2.out.2.1.cell0; have z1 := HK2.out.2.1.cell1; have zl := HK2.out.2.1.lt
        have f0 := HK2.out.2.1.froz 0; have f1 := HK2.out.2.1.froz 1
        have HK3 := Lib.hid (HK2.out.set (s := u) rfl rfl)
        clear E2
        go_wp2_with fail
        go_roundw
        case rel => exact ⟨k + 1, u, by omega, by omega, by go_num, HS, HK3⟩
        case measure => simp [intOf]; omega
      · rw [if_neg (fun h => c (HLT.out.2 h))] at HS
        have d0 : decide (cc < 0) = false := decide_eq_false c
        clear HLT
        go_wp2_with fail
        go_region_held3 (fun w' => w'.cell? ⟨b1, o1 + k * 2, none⟩ = some (.int .i64 u.X) ∧ w'.cell? ⟨b1, o1 + k * 2 + 1, none⟩ = some (.int .i64 u.Y) ∧ w'.cell? ⟨g + 1, 0, none⟩ = some (.int .i64 m.X) ∧ w'.cell? ⟨g + 1, 1, none⟩ = some (.int .i64 m.Y) ∧ b1 < w'.heap.size ∧ g + 1 < w'.heap.size ∧ Hid (Below wo.heap.size wo w'))
          (first | exact E1.out | exact Mq.drewN E1.out 1 | exact Mq.go ‹_› ‹_› | assumption)
          (first | (go_at_call 112; refine (HC.out _).mono ?_; rintro e w' ⟨rfl, hb⟩) | fail)
        have E2 : Mq b1 (o1 + k * 2) (g + 1) u m wo w' := by assumption
        have HK2 := Lib.hid (HK.out.go E2.2.2.2.2.2.2.out)
        clear E1 HK E2
        go_wp2_with fail
        go_roundw
        case rel => exact ⟨k + 1, m, by omega, by omega, by go_num, HS, HK2⟩
        case measure => simp [intOf]; omega
    · obtain rfl : k = l.length := by omega
      have z0 := HK.out.2.1.cell0; have z1 := HK.out.2.1.cell1; have zl := HK.out.2.1.lt
      have f0 := HK.out.1.froz 0; have f1 := HK.out.1.froz 1
      have c0 := HK.out.1.cell0; have c1 := HK.out.1.cell1; have pl := HK.out.1.lt
      have hp9 : g ≠ g + 1 := by omega
      go_wp2_with fail
      exact bodyPost_ret (v := .agg #[.int .i64 m.X, .int .i64 m.Y]) (by simp [results, Tryz.results111, go_sem, *]) rfl ⟨m, rfl, HM.out, by have hk := HK.out.2.2.1; have h5 := HK.out.2.2.2.1; have h6 := HG.out; subst h6; (repeat' first | exact Below.refl _ _ | assumption | (apply below_drewN) | (refine Below.setCell ?_ (by (try simp); (try omega)) _) | (refine Below.alloc ?_ (by (try simp); (try omega)) _) | (refine Below.trans ?_ (Below.mono (Hid.out (by assumption)) (by (try simp); (try omega)))))⟩
end Go.Proofs.YtppomhgknhmceaaGreat
namespace Go.Proofs.YtppomhgknhmceaaGreat
open Go.RowKit

theorem infoPoint : (Tryz.prog.info? 82).map (fun i => (i.zero, i.size, i.bytes)) = some (some (.agg #[.int .i64 0, .int .i64 0]), 2, 16) := by kernel_rfl
def ptcells (l : List Pt) : List Value := l.flatMap fun p => [.int .i64 p.X, .int .i64 p.Y]
theorem ptcells_len (l : List Pt) : (ptcells l).length = l.length * 2 := by
  induction l with
  | nil => rfl
  | cons r l ih => show (_ :: _ :: ptcells l).length = _; simp [ih]; omega
theorem ptcells_append (l m : List Pt) : ptcells (l ++ m) = ptcells l ++ ptcells m := by simp [ptcells]
theorem ptcells_at : ∀ (l : List Pt) (j : Nat) (h : j < l.length), (ptcells l)[j * 2]? = some (.int .i64 l[j].X) ∧ (ptcells l)[j * 2 + 1]? = some (.int .i64 l[j].Y) := by
  intro l
  induction l with
  | nil => intro j h; simp at h
  | cons r l ih =>
    intro j h
    cases j with
    | zero => exact ⟨rfl, rfl⟩
    | succ j =>
      have := ih j (by simpa using h)
      rw [show (j + 1) * 2 = j * 2 + 1 + 1 by omega]
      exact this
/-- a slice of points that a call made, as a list of points. -/
theorem own_points {w : World} {B : Nat} {v : Value} {l : List Pt} (h : w.ownsRow B 82 2 v l.length (ptcells l)) :
    ∃ A cap, v = .slice A l.length cap ∧ PRow w A l ∧ l.length ≤ cap ∧ cap ≤ 9223372036854775807 ∧ (0 < l.length → ∃ g, A = some ⟨g, 0, none⟩ ∧ B ≤ g ∧ g < w.heap.size) ∧ (A = none → cap = 0) := by
  have hh := h
  obtain ⟨h1, h2⟩ := h
  rcases h2 with ⟨rfl, h3⟩ | ⟨g, cap, cur, rfl, hB, hg, h4⟩
  · rw [h3]
    exact ⟨none, 0, rfl, fun h => by omega, Nat.le_refl _, by omega, fun h => absurd h (Nat.lt_irrefl _), fun _ => rfl⟩
  · have hlt : g < w.heap.size := by
      rcases Nat.lt_or_ge g w.heap.size with hlt | hge
      · exact hlt
      · rw [Array.getElem?_eq_none hge] at hg; cases hg
    refine ⟨_, cap, rfl, fun h0 => ⟨g, 0, rfl, hlt, fun j hj => ?_⟩, ?_, ?_, fun _ => ⟨g, rfl, hB, hlt⟩, fun h => by cases h⟩
    · have c := fun i (hi : i < l.length * 2) => World.ownsRow.cellAt hh i hi
      obtain ⟨e0, e1⟩ := ptcells_at l j hj
      rw [Nat.zero_add]
      exact ⟨(c _ (by omega)).trans e0, (c _ (by omega)).trans e1⟩
    · exact h4.1
    · have := h4.2.1; unfold maxLen at this; omega
/-- points of one's own, made behind a world. -/
structure PtW (v : Value) (F : List Pt) (w wr : World) : Prop where
  own : wr.ownsRow w.heap.size 82 2 v F.length (ptcells F)
  bel : Below w.heap.size w wr
theorem PtW.nil (w : World) : PtW (.slice none 0 0) [] w w := ⟨World.ownsRow_nil _ _ _ _, Below.refl _ _⟩
theorem PtW.go {v : Value} {F : List Pt} {w wr w' : World} (h : PtW v F w wr) (hb : Below wr.heap.size wr w') : PtW v F w w' := ⟨own_go h.own hb, h.bel.trans (hb.mono h.bel.size)⟩
theorem PtW.far {v : Value} {F : List Pt} {w wr : World} (h : PtW v F w wr) {g : Nat} (hg : g < w.heap.size) : ∀ k, v.ownBlock = some k → k ≠ g := fun k hk e => by
  have := (h.own.lt k hk).1; omega
theorem PtW.app {v v' : Value} {F : List Pt} {p : Pt} {w wr w' : World} (h : PtW v F w wr) (ho : w'.ownsRow w.heap.size 82 2 v' (F.length + 1) (ptcells F ++ [.int .i64 p.X, .int .i64 p.Y])) (hg : wr.grownBy w' v.ownBlock) : PtW v' (F ++ [p]) w w' :=
  ⟨by rw [ptcells_append, List.length_append]; exact ho, Below.grown h.bel hg h.bel.size (fun k hk => (h.own.lt k hk).1)⟩
theorem one_rect {r : Rc} (h : ROk r) : IsForm [r] := by
  refine ⟨[⟨r.X0, r.X1, [r.Y0, r.Y1]⟩], ?_, rfl⟩
  show SlabOk _
  refine ⟨h.1, by simp, ⟨h.2.2.1, trivial⟩, ?_, ?_⟩
  · show Even [r.Y0, r.Y1]
    first | exact trivial | (unfold Even; simp) | (simp [Even])
  · intro x hx
    have h1 := h.2.1; have h2 := h.2.2.1; have h3 := h.2.2.2
    simp only [List.mem_cons, List.not_mem_nil, or_false] at hx
    rcases hx with rfl | rfl <;> omega
theorem one_reg {r : Rc} (h : ROk r) : RegP [r] := ⟨one_rect h, by simp⟩
theorem room_reg {room : List Rc} (hr : ∀ p ∈ room, ROk p) (hl : room.length ≤ 1) : RegP room := by
  match room, hl with
  | [], _ => exact ⟨⟨[], trivial, rfl⟩, by simp⟩
  | [q], _ => exact one_reg (hr q (by simp))
theorem op_rest {q : Rc} {room : List Rc} (hq : ROk q) (hr : ∀ p ∈ room, ROk p) (hl : room.length ≤ 1) : opR andnot [q] room = (restR q room, 0) := by
  have hs := formO_sq andnot (a := [q]) (b := room) (fun p hp => by rw [List.mem_singleton] at hp; subst hp; exact hq) hr
  have hn : ([q].length + room.length) * ([q].length + room.length) ≤ 2 * 2 := Nat.mul_le_mul (by simp; omega) (by simp; omega)
  unfold opR capR
  rw [if_pos ⟨one_reg hq, room_reg hr hl⟩, if_pos (by omega)]
  rfl
def outsP (a room : List Rc) : List Pt := (outsR a room).map fun c => ⟨c.1, c.2⟩
theorem outsP_next (a room : List Rc) (k : Nat) (h : k < a.length) : outsP (a.take (k + 1)) room = outsP (a.take k) room ++ (outR a[k] room).map (fun c => ⟨c.1, c.2⟩) := by
  unfold outsP outsR; rw [List.take_succ_eq_append_getElem h, List.flatMap_append, List.map_append]; simp
theorem outsP_len (a room : List Rc) : (outsP a room).length ≤ a.length := by
  unfold outsP outsR
  rw [List.length_map]
  induction a with
  | nil => simp
  | cons q a ih =>
    rw [List.flatMap_cons, List.length_append, List.length_cons]
    have : (outR q room).length ≤ 1 := by unfold outR; split <;> simp
    omega
/-- what the region of a round reads. -/
def R2p (b : Nat) (xa xb : Int) (w : World) : Prop := w.cell? ⟨b, 0, none⟩ = some (.int .i64 xa) ∧ w.cell? ⟨b, 1, none⟩ = some (.int .i64 xb) ∧ b < w.heap.size
theorem R2p.go {b : Nat} {xa xb : Int} {w w' : World} (h : R2p b xa xb w) (hb : Below w.heap.size w w') : R2p b xa xb w' := by
  obtain ⟨h0, h1, l0⟩ := h
  exact ⟨(hb.cell (p := ⟨b, 0, none⟩) l0).trans h0, (hb.cell (p := ⟨b, 1, none⟩) l0).trans h1, Nat.lt_of_lt_of_le l0 hb.size⟩
theorem R2p.drewN {b : Nat} {xa xb : Int} {w : World} (h : R2p b xa xb w) (n : Nat) : R2p b xa xb (w.drewN n) := h.go (below_drewN (Below.refl _ _) n)
theorem R2p.grow {b : Nat} {xa xb : Int} {w w' : World} {row : Option Nat} (h : R2p b xa xb w) (hg : w.grownBy w' row) (hn : ∀ g, row = some g → g ≠ b) : R2p b xa xb w' := by
  obtain ⟨h0, h1, l0⟩ := h
  have e0 : ∀ o, w'.cell? ⟨b, o, none⟩ = w.cell? ⟨b, o, none⟩ := fun o => World.cell?_of_block (hg.block b l0 (fun e => hn b e.symm rfl))
  exact ⟨(e0 _).trans h0, (e0 _).trans h1, Nat.lt_of_lt_of_le l0 hg.size⟩
/-- the least cell of an area outside of a room. -/
def OutIs (a room : List Rc) (w : World) (e : Ending) (w' : World) : Prop := ∃ x y : Int, e = .returned (.agg #[.int .i64 x, .int .i64 y]) ∧ OutC a room x y ∧ Below w.heap.size w w'
theorem out_min {a room : List Rc} (ha : ∀ q ∈ a, ROk q) (hr : ∀ p ∈ room, ROk p) {m : Pt} (h : MinAt (outsP a room) (outsP a room).length m) : OutC a room m.X m.Y := by
  obtain ⟨c, hc, he⟩ := List.mem_map.1 h.mem
  refine outC_of ha hr (x := m.X) (y := m.Y) (by rw [← he]; exact hc) (fun c hc hl => ?_)
  have hin : (⟨c.1, c.2⟩ : Pt) ∈ outsP a room := List.mem_map.2 ⟨c, hc, rfl⟩
  generalize outsP a room = X at *
  obtain ⟨j, hj, e⟩ := List.mem_iff_getElem.1 hin
  have k := h.le j hj hj
  rw [e] at k
  exact k hl
set_option maxHeartbeats 32000000 in
theorem kout_any (A1 : Option Addr) (c1 : Nat) (a : List Rc) (A2 : Option Addr) (c2 : Nat) (room : List Rc) (w : World) (h1 : RIn w A1 c1 a) (h2 : RIn w A2 c2 room) (ha : ∀ q ∈ a, ROk q) (hr : ∀ p ∈ room, ROk p) (hl : room.length ≤ 1) (hlen : a.length ≤ 1000) (hne : outsR a room ≠ []) :
    Calls Tryz.prog 66 #[.slice A1 a.length c1, .slice A2 room.length c2] w (OutIs a room w) := by
  obtain ⟨W, hW⟩ : ∃ W, W = w.alloc (.cells #[.int .i64 0, .int .i64 0] 82) := ⟨_, rfl⟩
  have hwW : Below w.heap.size w W := by rw [hW]; exact (Below.refl _ _).alloc (Nat.le_refl _) _
  have KP : Hid (PtAt W w.heap.size zP) := Lib.hid (by rw [hW]; exact PtAt.new w zP _ rfl)
  have H1 := Lib.hid (h1.below hwW)
  have H2 := Lib.hid (h2.below hwW)
  have HWW := Lib.hid hwW
  have HA := Lib.hid ha; have HR0 := Lib.hid hr; have HL := Lib.hid hl
  have HNE := Lib.hid hne
  have O0 : Hid (PtW (.slice none 0 0) [] W W) := Lib.hid (PtW.nil W)
  obtain ⟨i9, hi9, hz0, hz1, hz2⟩ := info_parts infoPoint
  clear h1 h2 hwW ha hr hl hne
  go_enter Tryz.func66, Tryz.ntmps66
  go_wp2_with fail
  rw [← hW]
  clear hW
  go_loopw [5, 12] (fun v i wr => ∃ (k : Nat) (v0 : Value), k ≤ a.length ∧ i = .int .i64 k ∧ v0 = v ∧ Hid (PtW v0 (outsP (a.take k) room) W wr)) (fun _ i _ => a.length - (intOf i).toNat)
  case atStart => exact ⟨0, _, Nat.zero_le _, rfl, rfl, O0⟩
  case round =>
    clear O0
    obtain ⟨k, v0, hk, rfl, rfl, HO⟩ := hrel
    by_cases hlt : k < a.length
    · obtain ⟨b1, o1, rfl, hb1, hv1⟩ := H1.out.row (by omega)
      obtain ⟨x0, x1, x2, x3⟩ := hv1 k hlt
      have hnx := outsP_next a room k hlt
      have hq := HA.out _ (List.getElem_mem hlt)
      obtain ⟨q, hqe⟩ : ∃ q, q = a[k] := ⟨_, rfl⟩
      rw [← hqe] at x0 x1 x2 x3 hnx hq
      clear hqe hv1
      have wc := fun o => HO.out.bel.cell (p := ⟨b1, o, none⟩) hb1
      have x0 := (wc _).trans x0; have x1 := (wc _).trans x1; have x2 := (wc _).trans x2; have x3 := (wc _).trans x3
      have hbs := HO.out.bel.size
      have hbw : b1 < wr.heap.size := Nat.lt_of_lt_of_le hb1 hbs
      have n0 : (0 : Int) ≤ (k : Int) := by omega
      have n1 : (k : Int) < (a.length : Int) := by omega
      clear wc
      obtain ⟨w2, hw2⟩ : ∃ w2, w2 = (wr.alloc (.cells #[.int .i64 q.X0, .int .i64 q.Y0, .int .i64 q.X1, .int .i64 q.Y1] 33)).alloc (.cells #[.int .i64 q.X0, .int .i64 q.Y0, .int .i64 q.X1, .int .i64 q.Y1] 33) := ⟨_, rfl⟩
      have b2 : Below wr.heap.size wr w2 := by rw [hw2]; exact ((Below.refl _ _).alloc (Nat.le_refl _) _).alloc (by simp) _
      have hs2 : wr.heap.size < w2.heap.size := by rw [hw2]; simp; omega
      have hRB : RIn w2 (some ⟨wr.heap.size + 1, 0, none⟩) 1 [q] := by
        have h := RB.row (RB.new (wr.alloc (.cells #[.int .i64 q.X0, .int .i64 q.Y0, .int .i64 q.X1, .int .i64 q.Y1] 33)) [q] #[.int .i64 q.X0, .int .i64 q.Y0, .int .i64 q.X1, .int .i64 q.Y1] rfl) (by simp)
        rw [← hw2] at h
        simpa using h
      have HM := Lib.hid (gminus_any (some ⟨wr.heap.size + 1, 0, none⟩) 1 A2 c2 [q] room w2 hRB (H2.out.below (HO.out.bel.trans (b2.mono hbs))))
      rw [op_rest hq HR0.out HL.out] at HM
      have HO2 := Lib.hid (HO.out.go b2)
      have HLT : Hid (∀ g, v0.ownBlock = some g → g < w2.heap.size) := Lib.hid (fun g hg => by have := (HO.out.own.lt g hg).2; omega)
      have hXl : (outsP (a.take k) room).length ≤ 1000 := by have := outsP_len (a.take k) room; have := List.length_take_le k a; omega
      clear hRB hq
      obtain ⟨X, hX⟩ : ∃ X, X = outsP (a.take k) room := ⟨_, rfl⟩
      rw [← hX] at HO2 hnx hXl
      have HNX := Lib.hid hnx
      clear hX hnx HO b2 hs2
      cases hF : restR q room with
      | nil =>
        have HNX2 : Hid (outsP (a.take (k + 1)) room = X) := Lib.hid (by rw [HNX.out]; unfold outR; rw [hF]; simp)
        rw [hF] at HM
        clear hF HNX
        go_wp2_with fail
        rw [← hw2]
        refine HM.out.mono ?_
        rintro e w3 ⟨v3, rfl, ho3, hb3⟩
        obtain ⟨A3, c3, rfl, _⟩ := own_rects ho3
        have HO3 := Lib.hid (HO2.out.go hb3)
        clear ho3 hb3 HM HO2 x0 x1 x2 x3 hw2
        go_wp2_with fail
        go_roundw
        case rel => exact ⟨k + 1, v0, by omega, by go_num, rfl, by rw [HNX2.out]; exact HO3⟩
        case measure => simp [intOf]; omega
      | cons p R =>
        have HNX2 : Hid (outsP (a.take (k + 1)) room = X ++ [⟨p.X0, p.Y0⟩]) := Lib.hid (by rw [HNX.out]; unfold outR; rw [hF]; simp)
        rw [hF] at HM
        clear hF HNX
        go_wp2_with fail
        rw [← hw2]
        refine HM.out.mono ?_
        rintro e w3 ⟨v3, rfl, ho3, hb3⟩
        obtain ⟨A3, c3, rfl, hr3, _, _, hg3, _⟩ := own_rects ho3
        obtain ⟨g3, rfl, hg3a, hg3b⟩ := hg3 (by simp)
        obtain ⟨g3', o3', e3, _, hv3⟩ := hr3 (by simp)
        injection e3 with e3
        injection e3 with e3a e3b
        subst e3a; subst e3b
        obtain ⟨y0, y1, _, _⟩ := hv3 0 (by simp)
        obtain ⟨xa, hxa⟩ : ∃ xa, xa = p.X0 := ⟨_, rfl⟩
        obtain ⟨xb, hxb⟩ : ∃ xb, xb = p.Y0 := ⟨_, rfl⟩
        simp only [List.getElem_cons_zero, Nat.zero_mul, Nat.add_zero, Nat.zero_add] at y0 y1
        rw [← hxa] at y0; rw [← hxb] at y1
        rw [← hxa, ← hxb] at HNX2
        clear hxa hxb hv3 hr3 hg3
        have hm0 : 0 < (p :: R).length := by simp
        generalize (p :: R).length = m at *
        have m0 : (0 : Int) < (m : Int) := by omega
        have HR : Hid (R2p g3 xa xb w3) := Lib.hid ⟨y0, y1, hg3b⟩
        have HO3 := Lib.hid (HO2.out.go hb3)
        have HAP : Hid (∀ g, v0.ownBlock = some g → g ≠ g3) := Lib.hid (fun g hg => by have := HLT.out g hg; omega)
        have hb2 : Below w3.heap.size w3 (w3.drew.alloc (.cells #[.int .i64 xa, .int .i64 xb] 82)) := (below_drewN (Below.refl _ _) 1).alloc (Nat.le_refl _) _
        have HO4 := Lib.hid (HO3.out.go hb2)
        have HOWN := Lib.hid HO4.out.own
        have HSZ := Lib.hid HO4.out.bel.size
        have HGROW : Hid (∀ v6 w6, w6.ownsRow W.heap.size 82 2 v6 (X.length + 1) (ptcells X ++ [.int .i64 xa, .int .i64 xb]) → (w3.drew.alloc (.cells #[.int .i64 xa, .int .i64 xb] 82)).grownBy w6 v0.ownBlock → PtW v6 (outsP (a.take (k + 1)) room) W w6) := Lib.hid (fun v6 w6 q1 q2 => by
          rw [HNX2.out]
          exact HO4.out.app (p := ⟨xa, xb⟩) q1 q2)
        clear ho3 hb3 HM HO2 x0 x1 x2 x3 hw2 y0 y1 hb2 HO4 HO3 HNX2 HLT hg3a
        go_wp2_with fail
        refine wp_region_held_drew (S := fun w' => w'.cell? ⟨g3, 0, none⟩ = some (.int .i64 xa) ∧ w'.cell? ⟨g3, 1, none⟩ = some (.int .i64 xb) ∧ g3 < w'.heap.size) (by kernel_rfl) ?_ (fun hHeld => ?_)
        · exact R2p.drewN HR.out 1
        refine wpAnyH_take (i := 0) (oi := { dst := some 26, op := Go.Op.move (Go.Operand.tmp 5), type := 114, pos := "plane.go:150", after := #[], guard := none }) (v := ?_) rfl (by kernel_rfl) (by kernel_rfl) (by kernel_rfl) (fun _ _ _ h => h) (Or.inl ⟨by rfl, ?_⟩) (by assumption) ?_
        rotate_left
        · (intro w hSw; (try dsimp only at hSw); go_simp); try with_reducible rfl
        try simp only [Act.put, List.setIfInBounds_toArray, List.set_cons_zero, List.set_cons_succ]
        refine wpAnyH_take (i := 1) (oi := { dst := some 27, op := Go.Op.move (Go.Operand.tmp 8), type := 40, pos := "plane.go:150", after := #[], guard := none }) (v := ?_) rfl (by kernel_rfl) (by kernel_rfl) (by kernel_rfl) (fun _ _ _ h => h) (Or.inl ⟨by rfl, ?_⟩) (by assumption) ?_
        rotate_left
        · (intro w hSw; (try dsimp only at hSw); go_simp); try with_reducible rfl
        try simp only [Act.put, List.setIfInBounds_toArray, List.set_cons_zero, List.set_cons_succ]
        refine wpAnyH_take (i := 2) (oi := { dst := some 28, op := Go.Op.indexAddr 40 (Go.Operand.tmp 27) (Go.Operand.const (Go.Value.int Go.IntKind.i64 0)), type := 0, pos := "plane.go:150", after := #[{ on := 1, ground := Go.Ground.data }], guard := none }) (v := ?_) rfl (by kernel_rfl) (by kernel_rfl) (by kernel_rfl) (fun _ _ _ h => h) (Or.inl ⟨by rfl, ?_⟩) (by assumption) ?_
        rotate_left
        · (intro w hSw; (try dsimp only at hSw); go_simp); try with_reducible rfl
        try simp only [Act.put, List.setIfInBounds_toArray, List.set_cons_zero, List.set_cons_succ]
        refine wpAnyH_take (i := 3) (oi := { dst := some 29, op := Go.Op.fieldAddr 33 (Go.Operand.tmp 28) 0, type := 0, pos := "plane.go:150", after := #[{ on := 2, ground := Go.Ground.data }], guard := none }) (v := ?_) rfl (by kernel_rfl) (by kernel_rfl) (by kernel_rfl) (fun _ _ _ h => h) (Or.inl ⟨by rfl, ?_⟩) (by assumption) ?_
        rotate_left
        · (intro w hSw; (try dsimp only at hSw); go_simp); try with_reducible rfl
        try simp only [Act.put, List.setIfInBounds_toArray, List.set_cons_zero, List.set_cons_succ]
        refine wpAnyH_take (i := 4) (oi := { dst := some 30, op := Go.Op.load 3 (Go.Operand.tmp 29), type := 3, pos := "plane.go:150", after := #[{ on := 3, ground := Go.Ground.data }], guard := none }) (v := ?_) rfl (by kernel_rfl) (by kernel_rfl) (by kernel_rfl) (fun _ _ _ h => h) (Or.inl ⟨by rfl, ?_⟩) (by assumption) ?_
        rotate_left
        · (intro w hSw; (try dsimp only at hSw); go_simp); try with_reducible rfl
        try simp only [Act.put, List.setIfInBounds_toArray, List.set_cons_zero, List.set_cons_succ]
        refine wpAnyH_take (i := 5) (oi := { dst := some 31, op := Go.Op.move (Go.Operand.tmp 8), type := 40, pos := "plane.go:150", after := #[], guard := none }) (v := ?_) rfl (by kernel_rfl) (by kernel_rfl) (by kernel_rfl) (fun _ _ _ h => h) (Or.inl ⟨by rfl, ?_⟩) (by assumption) ?_
        rotate_left
        · (intro w hSw; (try dsimp only at hSw); go_simp); try with_reducible rfl
        try simp only [Act.put, List.setIfInBounds_toArray, List.set_cons_zero, List.set_cons_succ]
        refine wpAnyH_take (i := 6) (oi := { dst := some 32, op := Go.Op.indexAddr 40 (Go.Operand.tmp 31) (Go.Operand.const (Go.Value.int Go.IntKind.i64 0)), type := 0, pos := "plane.go:150", after := #[{ on := 5, ground := Go.Ground.data }], guard := none }) (v := ?_) rfl (by kernel_rfl) (by kernel_rfl) (by kernel_rfl) (fun _ _ _ h => h) (Or.inl ⟨by rfl, ?_⟩) (by assumption) ?_
        rotate_left
        · (intro w hSw; (try dsimp only at hSw); go_simp); try with_reducible rfl
        try simp only [Act.put, List.setIfInBounds_toArray, List.set_cons_zero, List.set_cons_succ]
        refine wpAnyH_take (i := 7) (oi := { dst := some 33, op := Go.Op.fieldAddr 33 (Go.Operand.tmp 32) 1, type := 0, pos := "plane.go:150", after := #[{ on := 6, ground := Go.Ground.data }], guard := none }) (v := ?_) rfl (by kernel_rfl) (by kernel_rfl) (by kernel_rfl) (fun _ _ _ h => h) (Or.inl ⟨by rfl, ?_⟩) (by assumption) ?_
        rotate_left
        · (intro w hSw; (try dsimp only at hSw); go_simp); try with_reducible rfl
        try simp only [Act.put, List.setIfInBounds_toArray, List.set_cons_zero, List.set_cons_succ]
        refine wpAnyH_take (i := 8) (oi := { dst := some 34, op := Go.Op.load 3 (Go.Operand.tmp 33), type := 3, pos := "plane.go:150", after := #[{ on := 7, ground := Go.Ground.data }], guard := none }) (v := ?_) rfl (by kernel_rfl) (by kernel_rfl) (by kernel_rfl) (fun _ _ _ h => h) (Or.inl ⟨by rfl, ?_⟩) (by assumption) ?_
        rotate_left
        · (intro w hSw; (try dsimp only at hSw); go_simp); try with_reducible rfl
        try simp only [Act.put, List.setIfInBounds_toArray, List.set_cons_zero, List.set_cons_succ]
        refine wpAnyH_take (i := 9) (oi := { dst := some 35, op := Go.Op.build 82 #[(0, Go.Operand.tmp 30), (1, Go.Operand.tmp 34)], type := 82, pos := "plane.go:150", after := #[{ on := 4, ground := Go.Ground.data }, { on := 8, ground := Go.Ground.data }], guard := none }) (v := ?_) rfl (by kernel_rfl) (by kernel_rfl) (by kernel_rfl) (fun _ _ _ h => h) (Or.inl ⟨by rfl, ?_⟩) (by assumption) ?_
        rotate_left
        · (intro w hSw; (try dsimp only at hSw); go_simp); try with_reducible rfl
        try simp only [Act.put, List.setIfInBounds_toArray, List.set_cons_zero, List.set_cons_succ]
        refine wpAnyH_ready (rs := [10]) (by kernel_rfl) (by simp) ?_
        refine AllReadyH.cons (o := { dst := some 36, op := Go.Op.buildSlice 114 1 #[(0, Go.Operand.tmp 35)], type := 114, pos := "plane.go:150", after := #[{ on := 9, ground := Go.Ground.data }], guard := none }) rfl (fun Kx hKx => ?_) AllReadyH.nil
        go_simp
        refine hKx.out _ _ (R2p.go ‹_› ((Below.refl _ _).alloc (Nat.le_refl _) _)) (fun hHeld2 => ?_)
        clear hKx Kx hHeld
        have hHeld := hHeld2; clear hHeld2
        try simp only [Act.put, List.setIfInBounds_toArray, List.set_cons_zero, List.set_cons_succ]
        refine wpAnyH_ready (rs := [11]) (by kernel_rfl) (by simp) ?_
        refine AllReadyH.cons (o := { dst := some 37, op := Go.Op.call { callee := Go.Callee.builtin Go.Builtin.append, args := #[Go.Operand.tmp 26, Go.Operand.tmp 36], argTypes := #[114, 114] }, type := 114, pos := "plane.go:150", after := #[{ on := 0, ground := Go.Ground.data }, { on := 10, ground := Go.Ground.data }], guard := none }) rfl (fun Kx hKx => ?_) AllReadyH.nil
        try simp only [Act.put, List.setIfInBounds_toArray, List.set_cons_zero, List.set_cons_succ]
        refine wp_append_own _ (Operand.tmp 26) (Operand.tmp 36) 114 rfl W.heap.size 82 i9 (.agg #[.int .i64 0, .int .i64 0]) 2 16 Tryz.underlying114 hi9 hz0 hz1 hz2 rfl (by decide) v0 X.length (ptcells X) rfl HOWN.out ⟨w3.drew.heap.size, 0, none⟩ 1 1 [.int .i64 xa, .int .i64 xb] rfl rfl ?d1 ?d2 ?d3 ?d4 ?d5 ?_
        case d1 => exact World.news_of_block (cs := #[.int .i64 xa, .int .i64 xb]) (t := 82) (fr := (0, 0)) (heap_alloc_new w3.drew _)
        case d2 => intro u hu; simp only [List.mem_cons, List.not_mem_nil, or_false] at hu; rcases hu with rfl | rfl <;> rfl
        case d3 => unfold maxLen; omega
        case d4 => omega
        case d5 => exact HSZ.out
        intro v6 w6 hown6 hgr6 _
        have HW6 := Lib.hid (HGROW.out v6 w6 hown6 hgr6)
        refine hKx.out _ _ (R2p.grow ‹_› hgr6 HAP.out) (fun hHeld2 => ?_)
        clear hKx Kx hHeld hown6 hgr6
        have hHeld := hHeld2; clear hHeld2
        try simp only [Act.put, List.setIfInBounds_toArray, List.set_cons_zero, List.set_cons_succ]
        refine wpAnyH_take (i := 12) (oi := { dst := some 5, op := Go.Op.assign (Go.Operand.tmp 37), type := 114, pos := "plane.go:150", after := #[{ on := 11, ground := Go.Ground.data }, { on := 11, ground := Go.Ground.chain }, { on := 0, ground := Go.Ground.phase }, { on := 1, ground := Go.Ground.phase }, { on := 2, ground := Go.Ground.phase }, { on := 3, ground := Go.Ground.phase }, { on := 4, ground := Go.Ground.phase }, { on := 5, ground := Go.Ground.phase }, { on := 6, ground := Go.Ground.phase }, { on := 7, ground := Go.Ground.phase }, { on := 8, ground := Go.Ground.phase }, { on := 9, ground := Go.Ground.phase }, { on := 10, ground := Go.Ground.phase }, { on := 11, ground := Go.Ground.phase }], guard := none }) (v := ?_) rfl (by kernel_rfl) (by kernel_rfl) (by kernel_rfl) (fun _ _ _ h => h) (Or.inl ⟨by rfl, ?_⟩) (by assumption) ?_
        rotate_left
        · (intro w hSw; (try dsimp only at hSw); go_simp); try with_reducible rfl
        try simp only [Act.put, List.setIfInBounds_toArray, List.set_cons_zero, List.set_cons_succ]
        refine wpAnyH_done (by kernel_rfl) ?_ _
        go_wp2_with fail
        go_roundw
        case rel => exact ⟨k + 1, v6, by omega, by go_num, rfl, HW6⟩
        case measure => simp [intOf]; omega
    · obtain rfl : k = a.length := by omega
      rw [List.take_length] at HO
      have HMI : Hid (∀ m : Pt, MinAt (outsP a room) (outsP a room).length m → OutC a room m.X m.Y) := Lib.hid (fun m hm => out_min HA.out HR0.out hm)
      have hXp : 0 < (outsP a room).length := List.length_pos_iff.2 (fun e => HNE.out (List.map_eq_nil_iff.1 e))
      have hXl : (outsP a room).length ≤ 1000 := by have := outsP_len a room; omega
      generalize outsP a room = X at *
      have hk0 := KP.out.below HO.out.bel KP.out.lt
      obtain ⟨A3, c3, rfl, hr3, hc3, hc4, _, _⟩ := own_points HO.out.own
      have HMF := Lib.hid (pmin_any A3 c3 X wr ⟨hr3, by omega, hc3, hc4⟩ hXp)
      have B9 := Lib.hid (HWW.out.trans (HO.out.bel.mono HWW.out.size))
      have K9 := Lib.hid hk0
      clear hk0 hr3 HO
      go_wp2_with fail
      refine HMF.out.mono ?_
      rintro e w4 ⟨mm, rfl, hm, hb4⟩
      have HMM := Lib.hid (HMI.out mm hm)
      have K4 := Lib.hid (K9.out.below hb4 K9.out.lt)
      have B4 := Lib.hid (B9.out.trans (hb4.mono B9.out.size))
      clear hm hb4 HMF K9 B9
      have f0 := K4.out.froz 0; have f1 := K4.out.froz 1
      have z0 := K4.out.cell0; have z1 := K4.out.cell1; have zl := K4.out.lt
      go_wp2_with fail
      exact bodyPost_ret (v := .agg #[.int .i64 mm.X, .int .i64 mm.Y]) (by simp [results, Tryz.results66, go_sem, *]) rfl ⟨mm.X, mm.Y, rfl, HMM.out, by have hk := B4.out; (repeat' first | exact Below.refl _ _ | assumption | (apply below_drewN) | (refine Below.setCell ?_ (by (try simp); (try omega)) _) | (refine Below.alloc ?_ (by (try simp); (try omega)) _) | (refine Below.trans ?_ (Below.mono (Hid.out (by assumption)) (by (try simp); (try omega)))))⟩
end Go.Proofs.YtppomhgknhmceaaGreat
