/-
  Contracts of the reference of layer 6 (6): Form.
-/
import Derived.Test.YtdnoadngfkiabaaGreatS925
import Derived.Test.YtdnoadngfkiabaaGreatS926
import Derived.Test.YtdnoadngfkiabaaGreatS918
import Derived.Test.YtdnoadngfkiabaaGreatS901
import Derived.Test.YtdnoadngfkiabaaGreatS902
import Derived.BigQuiet
import Derived.Deep.AppendLies
import Derived.Deep.RegionHeld3
set_option linter.unusedVariables false
set_option maxRecDepth 100000
namespace Go.Proofs.YtdnoadngfkiabaaGreat
open Go.RowKit

theorem vown_apart {w : World} {B B' e e' s s' n n' : Nat} {v v' : Value} {xs xs' : List Value} (h : w.ownsRow B e s v n xs) (h' : w.ownsRow B' e' s' v' n' xs') (hne : e ≠ e') : ∀ g, v.ownBlock = some g → v'.ownBlock ≠ some g := by
  intro g hg hg'
  obtain ⟨_, h⟩ := h
  obtain ⟨_, h'⟩ := h'
  rcases h with ⟨rfl, _⟩ | ⟨g1, cap, cur, rfl, _, hc, _⟩
  · simp [Value.ownBlock] at hg
  · rcases h' with ⟨rfl, _⟩ | ⟨g2, cap2, cur2, rfl, _, hc2, _⟩
    · simp [Value.ownBlock] at hg'
    · simp only [Value.ownBlock, Option.some.injEq] at hg hg'
      subst hg; subst hg'
      rw [hc] at hc2
      simp only [Option.some.injEq, Obj.cells.injEq] at hc2
      exact hne hc2.2.1
theorem vown_kept {w w' : World} {B B' e e' s s' n n' : Nat} {v v' : Value} {xs xs' : List Value} (h : w.ownsRow B e s v n xs) (h' : w.ownsRow B' e' s' v' n' xs') (hne : e' ≠ e) (hg : w.grownBy w' v.ownBlock) : w'.ownsRow B' e' s' v' n' xs' :=
  own_stays h' (fun g hgb => hg.block g (h'.lt g hgb).2 (fun e => vown_apart h' h hne g hgb e.symm))
theorem irow_of {w : World} {B n c : Nat} {A : Option Addr} {l : List Int} (h : w.ownsRow B 3 1 (.slice A n c) l.length (icells l)) : n = l.length ∧ IRow w A l := by
  obtain ⟨A', c', e, h2⟩ := IRow.of_own h
  injection e with e1 e2 e3
  exact ⟨e2, by rw [e1]; exact h2⟩
/-- what Form works on: the rectangles so far, the column before, the edges; all in the call's own memory. -/
structure FoW (vo vw vx : Value) (F : List Rc) (W E : List Int) (w wr : World) : Prop where
  o1 : wr.ownsRow w.heap.size 33 4 vo F.length (rcells F)
  o2 : wr.ownsRow w.heap.size 3 1 vw W.length (icells W)
  o3 : wr.ownsRow w.heap.size 3 1 vx E.length (icells E)
  bel : Below w.heap.size w wr
section
variable {vo vw vx : Value} {F : List Rc} {W E : List Int} {w wr w' : World}
theorem FoW.go (h : FoW vo vw vx F W E w wr) (hb : Below wr.heap.size wr w') : FoW vo vw vx F W E w w' :=
  ⟨own_go h.o1 hb, own_go h.o2 hb, own_go h.o3 hb, h.bel.trans (hb.mono h.bel.size)⟩
theorem FoW.grow {vo' : Value} {F' : List Rc} (h : FoW vo vw vx F W E w wr) (ho : w'.ownsRow w.heap.size 33 4 vo' F'.length (rcells F')) (hg : wr.grownBy w' vo.ownBlock) : FoW vo' vw vx F' W E w w' :=
  ⟨ho, vown_kept h.o1 h.o2 (by decide) hg, vown_kept h.o1 h.o3 (by decide) hg, Below.grown h.bel hg h.bel.size (fun k hk => (h.o1.lt k hk).1)⟩
theorem FoW.set {g n cap : Nat} (h : FoW (.slice (some ⟨g, 0, none⟩) n cap) vw vx F W E w wr) (hn : n = F.length) {j : Nat} {x : Int} {F' : List Rc} (hl : F'.length = F.length) (he : (rcells F).set j (.int .i64 x) = rcells F') : FoW (.slice (some ⟨g, 0, none⟩) n cap) vw vx F' W E w (wr.setCell ⟨g, j, none⟩ (.int .i64 x)) := by
  subst hn
  have hg := (h.o1.lt g rfl).1
  obtain ⟨h1, h2⟩ := h.o1.stored j (.int .i64 x)
  refine ⟨?_, own_stays h.o2 (fun g2 hg2 => set_other _ _ _ _ ?_), own_stays h.o3 (fun g2 hg2 => set_other _ _ _ _ ?_), h.bel.setCell hg _⟩
  · rw [he] at h1; rw [hl]; exact h1
  · intro e
    exact vown_apart h.o1 h.o2 (by decide) g rfl (by rw [hg2, e])
  · intro e
    exact vown_apart h.o1 h.o3 (by decide) g rfl (by rw [hg2, e])
theorem FoW.col {vc : Value} {C : List Int} (h : FoW vo vw vx F W E w wr) (ho : wr.ownsRow w.heap.size 3 1 vc C.length (icells C)) : FoW vo vc vx F C E w wr := ⟨h.o1, ho, h.o3, h.bel⟩
end
/-- what the region of the columns reads. -/
def E1 (b p : Nat) (x : Int) (w : World) : Prop := w.cell? ⟨b, p, none⟩ = some (.int .i64 x) ∧ b < w.heap.size
theorem E1.go {b p : Nat} {x : Int} {w w' : World} (h : E1 b p x w) (hb : Below w.heap.size w w') : E1 b p x w' := ⟨(hb.cell (p := ⟨b, p, none⟩) h.2).trans h.1, Nat.lt_of_lt_of_le h.2 hb.size⟩
theorem E1.drewN {b p : Nat} {x : Int} {w : World} (h : E1 b p x w) (n : Nat) : E1 b p x (w.drewN n) := h.go (below_drewN (Below.refl _ _) n)
/-- what the region of a new rectangle reads. -/
def E4 (b p q c r s : Nat) (x y u v : Int) (w : World) : Prop := w.cell? ⟨b, p, none⟩ = some (.int .i64 x) ∧ w.cell? ⟨b, q, none⟩ = some (.int .i64 y) ∧ w.cell? ⟨c, r, none⟩ = some (.int .i64 u) ∧ w.cell? ⟨c, s, none⟩ = some (.int .i64 v) ∧ b < w.heap.size ∧ c < w.heap.size
section
variable {b p q c r s : Nat} {x y u v : Int} {w w' : World}
theorem E4.go (h : E4 b p q c r s x y u v w) (hb : Below w.heap.size w w') : E4 b p q c r s x y u v w' := by
  obtain ⟨h0, h1, h2, h3, l0, l1⟩ := h
  exact ⟨(hb.cell (p := ⟨b, p, none⟩) l0).trans h0, (hb.cell (p := ⟨b, q, none⟩) l0).trans h1, (hb.cell (p := ⟨c, r, none⟩) l1).trans h2, (hb.cell (p := ⟨c, s, none⟩) l1).trans h3, Nat.lt_of_lt_of_le l0 hb.size, Nat.lt_of_lt_of_le l1 hb.size⟩
theorem E4.drewN (h : E4 b p q c r s x y u v w) (n : Nat) : E4 b p q c r s x y u v (w.drewN n) := h.go (below_drewN (Below.refl _ _) n)
theorem E4.grow {row : Option Nat} (h : E4 b p q c r s x y u v w) (hg : w.grownBy w' row) (hn : ∀ g, row = some g → g ≠ b ∧ g ≠ c) : E4 b p q c r s x y u v w' := by
  obtain ⟨h0, h1, h2, h3, l0, l1⟩ := h
  have e0 : ∀ o, w'.cell? ⟨b, o, none⟩ = w.cell? ⟨b, o, none⟩ := fun o => World.cell?_of_block (hg.block b l0 (fun e => (hn b e.symm).1 rfl))
  have e1 : ∀ o, w'.cell? ⟨c, o, none⟩ = w.cell? ⟨c, o, none⟩ := fun o => World.cell?_of_block (hg.block c l1 (fun e => (hn c e.symm).2 rfl))
  exact ⟨(e0 _).trans h0, (e0 _).trans h1, (e1 _).trans h2, (e1 _).trans h3, Nat.lt_of_lt_of_le l0 hg.size, Nat.lt_of_lt_of_le l1 hg.size⟩
end
theorem rects_take2 (a b : Int) (p : Nat) (C : List Int) (h2 : p % 2 = 0) (h : p + 1 < C.length) : rectsOf a b (C.take (p + 2)) = rectsOf a b (C.take p) ++ [⟨a, C[p], b, C[p + 1]⟩] := by
  obtain ⟨m, rfl⟩ : ∃ m, p = 2 * m := ⟨p / 2, by omega⟩
  exact rects_take a b m C h
theorem rcells_app1 (F : List Rc) (r : Rc) : rcells (F ++ [r]) = rcells F ++ [.int .i64 r.X0, .int .i64 r.Y0, .int .i64 r.X1, .int .i64 r.Y1] := by rw [rcells_append]; rfl
/-- an operation of combine, by its number. -/
def CombOk (n : Int) (op : Bool → Bool → Bool) : Prop := ∀ (A1 : Option Addr) (k1 : Nat) (A2 : Option Addr) (k2 : Nat) (a b : List Int) (w : World), IRow w A1 a → IRow w A2 b → a.length ≤ 1073741824 → b.length ≤ 1073741824 →
  Calls Tryz.prog 71 #[.slice A1 a.length k1, .slice A2 b.length k2, .int .i64 n] w fun e w' => ∃ v, e = .returned v ∧ OwnI v (comb op a b) w w'
/-- a list of rectangles in new memory. -/
def RcsIs (F : List Rc) (w : World) (e : Ending) (w' : World) : Prop := ∃ v, e = .returned v ∧ w'.ownsRow w.heap.size 33 4 v F.length (rcells F) ∧ Below w.heap.size w w'
set_option maxHeartbeats 40000000 in
theorem vForm_any (n : Int) (op : Bool → Bool → Bool) (h0 : op false false = false) (hop : CombOk n op) (A1 : Option Addr) (k1 : Nat) (A2 : Option Addr) (k2 : Nat) (a b : List Rc) (w : World) (h1 : RRow w A1 a) (h2 : RRow w A2 b) (hla : a.length ≤ 1000) (hlb : b.length ≤ 1000) (ha : ∀ r ∈ a, ROk r) (hb : ∀ r ∈ b, ROk r) :
    Calls Tryz.prog 42 #[.slice A1 a.length k1, .slice A2 b.length k2, .int .i64 n] w (RcsIs (formO op a b) w) := by
  obtain ⟨i0, hi9, hz0, hz1, hz2⟩ := info_parts infoRect
  have HED := Lib.hid (vedges_any A1 k1 A2 k2 a b w h1 h2 (by omega) (by omega))
  have HCA : Hid (∀ W x, Below w.heap.size w W → Calls Tryz.prog 72 #[.slice A1 a.length k1, .int .i64 x] W (fun e w' => ∃ v, e = .returned v ∧ OwnI v (colS a x) W w')) := Lib.hid (fun W x hW => (vcolumn_any A1 k1 a x W (h1.below hW) (by omega)).mono (fun e w' h => by
    obtain ⟨v, e1, e2⟩ := h; rw [merge_col ha x] at e2; exact ⟨v, e1, e2⟩))
  have HCB : Hid (∀ W x, Below w.heap.size w W → Calls Tryz.prog 72 #[.slice A2 b.length k2, .int .i64 x] W (fun e w' => ∃ v, e = .returned v ∧ OwnI v (colS b x) W w')) := Lib.hid (fun W x hW => (vcolumn_any A2 k2 b x W (h2.below hW) (by omega)).mono (fun e w' h => by
    obtain ⟨v, e1, e2⟩ := h; rw [merge_col hb x] at e2; exact ⟨v, e1, e2⟩))
  obtain ⟨c, hc⟩ : ∃ c : Int → List Int, c = fun x => comb op (colS a x) (colS b x) := ⟨_, rfl⟩
  have hcx : ∀ x, c x = comb op (colS a x) (colS b x) := fun x => by rw [hc]
  have HCC : Hid (∀ A3 c3 A4 c4 x W, IRow W A3 (colS a x) → IRow W A4 (colS b x) → Calls Tryz.prog 71 #[.slice A3 (colS a x).length c3, .slice A4 (colS b x).length c4, .int .i64 n] W (fun e w' => ∃ v, e = .returned v ∧ OwnI v (c x) W w')) := Lib.hid (fun A3 c3 A4 c4 x W r3 r4 => by
    rw [hcx x]
    have := colS_len ha x; have := colS_len hb x
    exact hop A3 c3 A4 c4 _ _ W r3 r4 (by omega) (by omega))
  have HCO : Hid (∀ x, ColOk (c x)) := Lib.hid (fun x => by rw [hcx x]; exact (comb_col h0 (colS_is ha x).1 (colS_is hb x).1).1)
  have HCL : Hid (∀ x, (c x).length ≤ 4000) := Lib.hid (fun x => by
    rw [hcx x]; have := comb_len op (colS a x) (colS b x); have := colS_len ha x; have := colS_len hb x; omega)
  have HEA := Lib.hid (edges_are ha hb)
  have hel : (sortS (sides a ++ sides b)).length ≤ 4000 := by
    have h3 := sortS_len (sides a ++ sides b) _ (Nat.le_refl _)
    rw [List.take_length, List.length_append, vsides_len, vsides_len] at h3
    omega
  have HFO : Hid (formO op a b = flatS (growF c [] (sortS (sides a ++ sides b)))) := Lib.hid (by rw [hc]; rfl)
  obtain ⟨E, hE⟩ : ∃ E, E = sortS (sides a ++ sides b) := ⟨_, rfl⟩
  rw [← hE] at HED HEA hel HFO
  have HAB : Hid ((colS a 0).length ≤ (colS a 0).length) := Lib.hid (Nat.le_refl _)
  clear h1 h2 hla hlb ha hb hop h0 hc hcx hE HAB
  go_enter Tryz.func42, Tryz.ntmps42
  go_wp2_with fail
  refine HED.out.mono ?_
  rintro e1 w1 ⟨vx, rfl, hx⟩
  obtain ⟨Ax, cx, rfl, _⟩ := IRow.of_own hx.own
  have K0 : Hid (FoW (.slice none 0 0) (.slice none 0 0) (.slice Ax E.length cx) (flatS []) [] E w w1) := Lib.hid ⟨World.ownsRow_nil _ _ _ _, World.ownsRow_nil _ _ _ _, hx.own, hx.bel⟩
  clear hx HED
  go_wp2_with fail
  go_loopw [7, 9, 10, 11, 12, 13, 14] (fun vo vw vl i _ _ _ wr => ∃ (k : Nat) (S : List Slab) (was : List Int) (last : Nat) (vo0 vw0 : Value), i = .int .i64 k ∧ vo0 = vo ∧ vw0 = vw ∧ vl = .int .i64 last ∧ k ≤ E.length ∧ Hid (FmR c E k S was last) ∧ Hid (FoW vo0 vw0 (.slice Ax E.length cx) (flatS S) was E w wr) ∧ Hid ((flatS S).length ≤ k * 4000 ∧ was.length ≤ 4000)) (fun _ _ _ i _ _ _ _ => E.length - (intOf i).toNat)
  case atStart => exact ⟨0, [], [], 0, _, _, rfl, rfl, rfl, rfl, Nat.zero_le _, Lib.hid (FmR.start c E), K0, Lib.hid (by simp [flatS])⟩
  case round =>
    clear K0
    obtain ⟨k, S, was, last, vo, vw, rfl, rfl, rfl, rfl, hkE, HR, HW, HL⟩ := hrel
    obtain ⟨F, hF⟩ : ∃ F, F = flatS S := ⟨_, rfl⟩
    rw [← hF] at HW HL
    have HFS := Lib.hid hF; clear hF
    obtain ⟨Aw, cw, rfl, _⟩ := IRow.of_own HW.out.o2
    obtain ⟨Ao, co, rfl, _, _, _, _, _⟩ := own_rects HW.out.o1
    by_cases hlt : k + 1 < E.length
    · have j0 : (0 : Int) ≤ (k : Int) := by omega
      have j1 : (k : Int) < (E.length : Int) := by omega
      have j2 : (k : Int) + 1 < (E.length : Int) := by omega
      have hq3 := (irow_of HW.out.o3).2 (by omega)
      obtain ⟨b3, o3, rfl, hb3, hv3⟩ := hq3
      have x0 := hv3 k (by omega)
      obtain ⟨xa, hxa⟩ : ∃ xa, xa = E[k] := ⟨_, rfl⟩
      obtain ⟨xb, hxb⟩ : ∃ xb, xb = E[k + 1] := ⟨_, rfl⟩
      rw [← hxa] at x0
      have HXA := Lib.hid hxa; have HXB := Lib.hid hxb
      have HX : Hid (E1 b3 (o3 + k) xa wr) := Lib.hid ⟨x0, hb3⟩
      clear hxa hxb hv3
      have HBD := Lib.hid (below_drewN HW.out.bel 1)
      have HW1 := Lib.hid (HW.out.go (below_drewN (Below.refl _ _) 1))
      go_wp2_with fail
      refine wp_region_held_drew (S := fun w' => w'.cell? ⟨b3, o3 + k, none⟩ = some (.int .i64 xa) ∧ b3 < w'.heap.size) (by kernel_rfl) ?_ (fun hHeld => ?_)
      · exact E1.drewN HX.out 1
      refine wpAnyH_take (i := 0) (oi := { dst := some 25, op := Go.Op.move (Go.Operand.tmp 0), type := 37, pos := "ref.go:136", after := #[], guard := none }) (v := ?_) rfl (by kernel_rfl) (by kernel_rfl) (by kernel_rfl) (fun _ _ _ h => h) (Or.inl ⟨by rfl, ?_⟩) (by assumption) ?_
      rotate_left
      · (intro w hSw; (try dsimp only at hSw); go_simp); try with_reducible rfl
      try simp only [Act.put, List.setIfInBounds_toArray, List.set_cons_zero, List.set_cons_succ]
      refine wpAnyH_take (i := 1) (oi := { dst := some 26, op := Go.Op.move (Go.Operand.tmp 8), type := 51, pos := "ref.go:136", after := #[], guard := none }) (v := ?_) rfl (by kernel_rfl) (by kernel_rfl) (by kernel_rfl) (fun _ _ _ h => h) (Or.inl ⟨by rfl, ?_⟩) (by assumption) ?_
      rotate_left
      · (intro w hSw; (try dsimp only at hSw); go_simp); try with_reducible rfl
      try simp only [Act.put, List.setIfInBounds_toArray, List.set_cons_zero, List.set_cons_succ]
      refine wpAnyH_take (i := 2) (oi := { dst := some 27, op := Go.Op.move (Go.Operand.tmp 11), type := 3, pos := "ref.go:136", after := #[], guard := none }) (v := ?_) rfl (by kernel_rfl) (by kernel_rfl) (by kernel_rfl) (fun _ _ _ h => h) (Or.inl ⟨by rfl, ?_⟩) (by assumption) ?_
      rotate_left
      · (intro w hSw; (try dsimp only at hSw); go_simp); try with_reducible rfl
      try simp only [Act.put, List.setIfInBounds_toArray, List.set_cons_zero, List.set_cons_succ]
      refine wpAnyH_take (i := 3) (oi := { dst := some 28, op := Go.Op.indexAddr 51 (Go.Operand.tmp 26) (Go.Operand.tmp 27), type := 0, pos := "ref.go:136", after := #[{ on := 1, ground := Go.Ground.data }, { on := 2, ground := Go.Ground.data }], guard := none }) (v := ?_) rfl (by kernel_rfl) (by kernel_rfl) (by kernel_rfl) (fun _ _ _ h => h) (Or.inl ⟨by rfl, ?_⟩) (by assumption) ?_
      rotate_left
      · (intro w hSw; (try dsimp only at hSw); go_simp); try with_reducible rfl
      try simp only [Act.put, List.setIfInBounds_toArray, List.set_cons_zero, List.set_cons_succ]
      refine wpAnyH_take (i := 4) (oi := { dst := some 29, op := Go.Op.load 3 (Go.Operand.tmp 28), type := 3, pos := "ref.go:136", after := #[{ on := 3, ground := Go.Ground.data }], guard := none }) (v := ?_) rfl (by kernel_rfl) (by kernel_rfl) (by kernel_rfl) (fun _ _ _ h => h) (Or.inl ⟨by rfl, ?_⟩) (by assumption) ?_
      rotate_left
      · (intro w hSw; (try dsimp only at hSw); go_simp); try with_reducible rfl
      try simp only [Act.put, List.setIfInBounds_toArray, List.set_cons_zero, List.set_cons_succ]
      refine wpAnyH_take (i := 6) (oi := { dst := some 31, op := Go.Op.move (Go.Operand.tmp 1), type := 37, pos := "ref.go:136", after := #[], guard := none }) (v := ?_) rfl (by kernel_rfl) (by kernel_rfl) (by kernel_rfl) (fun _ _ _ h => h) (Or.inl ⟨by rfl, ?_⟩) (by assumption) ?_
      rotate_left
      · (intro w hSw; (try dsimp only at hSw); go_simp); try with_reducible rfl
      try simp only [Act.put, List.setIfInBounds_toArray, List.set_cons_zero, List.set_cons_succ]
      refine wpAnyH_take (i := 7) (oi := { dst := some 32, op := Go.Op.move (Go.Operand.tmp 8), type := 51, pos := "ref.go:136", after := #[], guard := none }) (v := ?_) rfl (by kernel_rfl) (by kernel_rfl) (by kernel_rfl) (fun _ _ _ h => h) (Or.inl ⟨by rfl, ?_⟩) (by assumption) ?_
      rotate_left
      · (intro w hSw; (try dsimp only at hSw); go_simp); try with_reducible rfl
      try simp only [Act.put, List.setIfInBounds_toArray, List.set_cons_zero, List.set_cons_succ]
      refine wpAnyH_take (i := 8) (oi := { dst := some 33, op := Go.Op.move (Go.Operand.tmp 11), type := 3, pos := "ref.go:136", after := #[], guard := none }) (v := ?_) rfl (by kernel_rfl) (by kernel_rfl) (by kernel_rfl) (fun _ _ _ h => h) (Or.inl ⟨by rfl, ?_⟩) (by assumption) ?_
      rotate_left
      · (intro w hSw; (try dsimp only at hSw); go_simp); try with_reducible rfl
      try simp only [Act.put, List.setIfInBounds_toArray, List.set_cons_zero, List.set_cons_succ]
      refine wpAnyH_take (i := 9) (oi := { dst := some 34, op := Go.Op.indexAddr 51 (Go.Operand.tmp 32) (Go.Operand.tmp 33), type := 0, pos := "ref.go:136", after := #[{ on := 7, ground := Go.Ground.data }, { on := 8, ground := Go.Ground.data }], guard := none }) (v := ?_) rfl (by kernel_rfl) (by kernel_rfl) (by kernel_rfl) (fun _ _ _ h => h) (Or.inl ⟨by rfl, ?_⟩) (by assumption) ?_
      rotate_left
      · (intro w hSw; (try dsimp only at hSw); go_simp); try with_reducible rfl
      try simp only [Act.put, List.setIfInBounds_toArray, List.set_cons_zero, List.set_cons_succ]
      refine wpAnyH_take (i := 10) (oi := { dst := some 35, op := Go.Op.load 3 (Go.Operand.tmp 34), type := 3, pos := "ref.go:136", after := #[{ on := 9, ground := Go.Ground.data }], guard := none }) (v := ?_) rfl (by kernel_rfl) (by kernel_rfl) (by kernel_rfl) (fun _ _ _ h => h) (Or.inl ⟨by rfl, ?_⟩) (by assumption) ?_
      rotate_left
      · (intro w hSw; (try dsimp only at hSw); go_simp); try with_reducible rfl
      try simp only [Act.put, List.setIfInBounds_toArray, List.set_cons_zero, List.set_cons_succ]
      refine wpAnyH_take (i := 12) (oi := { dst := some 37, op := Go.Op.move (Go.Operand.tmp 2), type := 3, pos := "ref.go:136", after := #[], guard := none }) (v := ?_) rfl (by kernel_rfl) (by kernel_rfl) (by kernel_rfl) (fun _ _ _ h => h) (Or.inl ⟨by rfl, ?_⟩) (by assumption) ?_
      rotate_left
      · (intro w hSw; (try dsimp only at hSw); go_simp); try with_reducible rfl
      try simp only [Act.put, List.setIfInBounds_toArray, List.set_cons_zero, List.set_cons_succ]
      refine wpAnyH_ready (rs := [5]) (by kernel_rfl) (by simp) ?_
      refine AllReadyH.cons (o := { dst := some 30, op := Go.Op.call { callee := Go.Callee.value (Go.Operand.func 72), args := #[Go.Operand.tmp 25, Go.Operand.tmp 29], argTypes := #[37, 3] }, type := 51, pos := "ref.go:136", after := #[{ on := 0, ground := Go.Ground.data }, { on := 4, ground := Go.Ground.data }], guard := none }) rfl (fun Kx hKx => ?_) AllReadyH.nil
      go_simp
      go_at_call 72
      refine (HCA.out wr.drew xa HBD.out).mono ?_
      rintro e3 w3 ⟨v3, rfl, h3⟩
      obtain ⟨A3, c3, rfl, r3⟩ := IRow.of_own h3.own
      have HW3 := Lib.hid (HW1.out.go h3.bel)
      have R3 := Lib.hid r3; clear r3
      try go_wp2_with fail
      refine hKx.out _ _ (E1.go ‹_› h3.bel) (fun hHeld2 => ?_)
      clear h3
      clear hKx Kx hHeld
      have hHeld := hHeld2; clear hHeld2
      try simp only [Act.put, List.setIfInBounds_toArray, List.set_cons_zero, List.set_cons_succ]
      refine wpAnyH_ready (rs := [11]) (by kernel_rfl) (by simp) ?_
      refine AllReadyH.cons (o := { dst := some 36, op := Go.Op.call { callee := Go.Callee.value (Go.Operand.func 72), args := #[Go.Operand.tmp 31, Go.Operand.tmp 35], argTypes := #[37, 3] }, type := 51, pos := "ref.go:136", after := #[{ on := 6, ground := Go.Ground.data }, { on := 10, ground := Go.Ground.data }, { on := 5, ground := Go.Ground.chain }], guard := none }) rfl (fun Kx hKx => ?_) AllReadyH.nil
      go_simp
      go_at_call 72
      refine (HCB.out w3 xa HW3.out.bel).mono ?_
      rintro e4 w4 ⟨v4, rfl, h4⟩
      obtain ⟨A4, c4, rfl, r4⟩ := IRow.of_own h4.own
      have HW4 := Lib.hid (HW3.out.go h4.bel)
      have R3' := Lib.hid (R3.out.below h4.bel)
      have R4 := Lib.hid r4; clear r4
      try go_wp2_with fail
      refine hKx.out _ _ (E1.go ‹_› h4.bel) (fun hHeld2 => ?_)
      clear h4 R3
      clear hKx Kx hHeld
      have hHeld := hHeld2; clear hHeld2
      try simp only [Act.put, List.setIfInBounds_toArray, List.set_cons_zero, List.set_cons_succ]
      refine wpAnyH_ready (rs := [13]) (by kernel_rfl) (by simp) ?_
      refine AllReadyH.cons (o := { dst := some 38, op := Go.Op.call { callee := Go.Callee.value (Go.Operand.func 71), args := #[Go.Operand.tmp 30, Go.Operand.tmp 36, Go.Operand.tmp 37], argTypes := #[51, 51, 3] }, type := 51, pos := "ref.go:136", after := #[{ on := 5, ground := Go.Ground.data }, { on := 11, ground := Go.Ground.data }, { on := 12, ground := Go.Ground.data }, { on := 11, ground := Go.Ground.chain }], guard := none }) rfl (fun Kx hKx => ?_) AllReadyH.nil
      go_simp
      go_at_call 71
      refine (HCC.out A3 c3 A4 c4 xa w4 R3'.out R4.out).mono ?_
      rintro e5 w5 ⟨v5, rfl, h5⟩
      obtain ⟨A5, c5, rfl, r5⟩ := IRow.of_own h5.own
      have HW5 := Lib.hid (HW4.out.go h5.bel)
      have HC5 := Lib.hid (own_base h5.own HW4.out.bel.size)
      have R5 := Lib.hid r5; clear r5
      try go_wp2_with fail
      refine hKx.out _ _ (E1.go ‹_› h5.bel) (fun hHeld2 => ?_)
      clear h5 R3' R4
      clear hKx Kx hHeld
      have hHeld := hHeld2; clear hHeld2
      try simp only [Act.put, List.setIfInBounds_toArray, List.set_cons_zero, List.set_cons_succ]
      refine wpAnyH_take (i := 14) (oi := { dst := some 12, op := Go.Op.assign (Go.Operand.tmp 38), type := 51, pos := "ref.go:136", after := #[{ on := 13, ground := Go.Ground.data }, { on := 13, ground := Go.Ground.chain }, { on := 0, ground := Go.Ground.phase }, { on := 1, ground := Go.Ground.phase }, { on := 2, ground := Go.Ground.phase }, { on := 3, ground := Go.Ground.phase }, { on := 4, ground := Go.Ground.phase }, { on := 5, ground := Go.Ground.phase }, { on := 6, ground := Go.Ground.phase }, { on := 7, ground := Go.Ground.phase }, { on := 8, ground := Go.Ground.phase }, { on := 9, ground := Go.Ground.phase }, { on := 10, ground := Go.Ground.phase }, { on := 11, ground := Go.Ground.phase }, { on := 12, ground := Go.Ground.phase }, { on := 13, ground := Go.Ground.phase }], guard := none }) (v := ?_) rfl (by kernel_rfl) (by kernel_rfl) (by kernel_rfl) (fun _ _ _ h => h) (Or.inl ⟨by rfl, ?_⟩) (by assumption) ?_
      rotate_left
      · (intro w hSw; (try dsimp only at hSw); go_simp); try with_reducible rfl
      try simp only [Act.put, List.setIfInBounds_toArray, List.set_cons_zero, List.set_cons_succ]
      refine wpAnyH_done (by kernel_rfl) ?_ _
      clear hHeld
      clear HX HW1 HBD HW HW3 HW4 x0 hb3
      obtain ⟨C, hC⟩ : ∃ C, C = c xa := ⟨_, rfl⟩
      rw [← hC] at HC5 R5 ⊢
      have HCX := Lib.hid hC; clear hC
      have R6 := Lib.hid (irow_of HW5.out.o2).2
      by_cases hk0 : k = 0
      · have d0 : decide ((0 : Int) < (k : Int)) = false := decide_eq_false (by omega)
        have d0n : decide (0 < k) = false := decide_eq_false (by omega)
        have hn : C = [] ∨ C ≠ was := by
          by_cases e : C = []
          · exact Or.inl e
          · exact Or.inr (fun h => e (by rw [h]; exact HR.out.zero hk0))
        obtain ⟨W9, hW9⟩ : ∃ W9, W9 = w5 := ⟨_, rfl⟩
        have HW9 : Hid (FoW (.slice Ao F.length co) (.slice Aw was.length cw) (.slice (some ⟨b3, o3, none⟩) E.length cx) F was E w W9) := Lib.hid (by rw [hW9]; exact HW5.out)
        have HC9 : Hid (W9.ownsRow w.heap.size 3 1 (.slice A5 C.length c5) C.length (icells C)) := Lib.hid (by rw [hW9]; exact HC5.out)
        rw [← hW9]
        clear hW9 HW5 HC5 R5 R6 hk0
        obtain ⟨eF', HRN⟩ := HR.out.new hlt HEA.out.1 HEA.out.2 HCO.out (by rw [← HXA.out, ← HCX.out]; exact hn)
        rw [← HXA.out, ← HXB.out, ← HCX.out, ← HFS.out] at eF'
        rw [← HXA.out, ← HCX.out, ← HFS.out] at HRN
        obtain ⟨S', hS'⟩ : ∃ S', S' = growF c [] (E.take (k + 2)) := ⟨_, rfl⟩
        rw [← hS'] at eF' HRN
        have HRN := Lib.hid HRN
        have HF' := Lib.hid eF'
        clear eF' hS' hn HR
        have hCl : C.length ≤ 4000 := by rw [HCX.out]; exact HCL.out xa
        have HCE : Hid (C.length % 2 = 0) := Lib.hid (by rw [HCX.out]; exact (HCO.out xa).ev)
        have K5 : Hid (FoW (.slice Ao F.length co) (.slice A5 C.length c5) (.slice (some ⟨b3, o3, none⟩) E.length cx) (F ++ rectsOf xa xb (C.take 0)) C E w W9) := Lib.hid (by
          rw [List.take_zero, show rectsOf xa xb [] = [] from rfl, List.append_nil]; exact HW9.out.col HC9.out)
        clear HW9 HC9
        go_wp2_with fail
        go_loopw [7, 14] (fun vo k2 wq => ∃ (p : Nat) (vo0 : Value), p ≤ C.length ∧ k2 = .int .i64 p ∧ vo0 = vo ∧ Hid (p % 2 = 0) ∧ Hid (FoW vo0 (.slice A5 C.length c5) (.slice (some ⟨b3, o3, none⟩) E.length cx) (F ++ rectsOf xa xb (C.take p)) C E w wq)) (fun _ k2 _ => C.length - (intOf k2).toNat)
        case atStart => exact ⟨0, _, Nat.zero_le _, rfl, rfl, Lib.hid rfl, K5⟩
        case round =>
          clear K5
          obtain ⟨p, vk, hp, rfl, rfl, HP2, HK⟩ := hrel
          have p0 : (0 : Int) ≤ (p : Int) := by omega
          by_cases hpt : p + 1 < C.length
          · have p1 : (p : Int) < (C.length : Int) := by omega
            have p2 : (p : Int) + 1 < (C.length : Int) := by omega
            have p3 : (0 : Int) ≤ (p : Int) + 1 := by omega
            have pt : ((p : Int) + 1).toNat = p + 1 := by omega
            have k3 : (0 : Int) ≤ (k : Int) + 1 := by omega
            have kt : ((k : Int) + 1).toNat = k + 1 := by omega
            have qk : IntKind.i64.wrap ((k : Int) + 1) = (k : Int) + 1 := IntWalk.i64_in _ (by omega)
            have qp : IntKind.i64.wrap ((p : Int) + 1) = (p : Int) + 1 := IntWalk.i64_in _ (by omega)
            have hq5 := (irow_of HK.out.o2).2 (by omega)
            obtain ⟨b5, o5, rfl, hb5, hv5⟩ := hq5
            have hq3 := (irow_of HK.out.o3).2 (by omega)
            obtain ⟨b3', o3', e3, hb3', hv3'⟩ := hq3
            simp only [Option.some.injEq, Addr.mk.injEq, and_true] at e3
            obtain ⟨rfl, rfl⟩ := e3
            have x0 := hv3' k (by omega)
            have x1 := hv3' (k + 1) hlt
            have y0 := hv5 p (by omega)
            have y1 := hv5 (p + 1) hpt
            rw [← HXA.out] at x0
            rw [← HXB.out] at x1
            have hnx := rects_take2 xa xb p C HP2.out hpt
            obtain ⟨ya, hya⟩ : ∃ ya, ya = C[p] := ⟨_, rfl⟩
            obtain ⟨yb, hyb⟩ : ∃ yb, yb = C[p + 1] := ⟨_, rfl⟩
            rw [← hya] at y0 hnx
            rw [← hyb] at y1 hnx
            clear hya hyb hv5 hv3'
            obtain ⟨Fk, hFk⟩ : ∃ Fk, Fk = F ++ rectsOf xa xb (C.take p) := ⟨_, rfl⟩
            have hFk2 : F ++ rectsOf xa xb (C.take (p + 2)) = Fk ++ [⟨xa, ya, xb, yb⟩] := by rw [hnx, hFk, List.append_assoc]
            have hFl : Fk.length ≤ 4294967296 := by
              rw [hFk, List.length_append]
              have := rectsOf_len xa xb (C.take p)
              rw [List.length_take] at this
              have := HL.out.1
              omega
            rw [← hFk] at HK
            have HF2 := Lib.hid hFk2
            clear hFk hFk2 hnx
            have HR4 : Hid (E4 b3 (o3 + k) (o3 + (k + 1)) b5 (o5 + p) (o5 + (p + 1)) xa xb ya yb wr) := Lib.hid ⟨x0, x1, y0, y1, hb3', hb5⟩
            have hb2 : Below wr.heap.size wr (wr.drew.alloc (.cells #[.int .i64 xa, .int .i64 ya, .int .i64 xb, .int .i64 yb] 33)) := (below_drewN (Below.refl _ _) 1).alloc (Nat.le_refl _) _
            have HO2 := Lib.hid (HK.out.go hb2)
            have HOWN := Lib.hid HO2.out.o1
            have HSZ := Lib.hid HO2.out.bel.size
            have HAP : Hid (∀ g, vk.ownBlock = some g → g ≠ b3 ∧ g ≠ b5) := Lib.hid (fun g hg => ⟨fun e => vown_apart HK.out.o1 HK.out.o3 (by decide) g hg (by rw [e]; rfl), fun e => vown_apart HK.out.o1 HK.out.o2 (by decide) g hg (by rw [e]; rfl)⟩)
            have HGROW : Hid (∀ v6 w6, w6.ownsRow w.heap.size 33 4 v6 (Fk.length + 1) (rcells Fk ++ [.int .i64 xa, .int .i64 ya, .int .i64 xb, .int .i64 yb]) → (wr.drew.alloc (.cells #[.int .i64 xa, .int .i64 ya, .int .i64 xb, .int .i64 yb] 33)).grownBy w6 vk.ownBlock → FoW v6 (.slice (some ⟨b5, o5, none⟩) C.length c5) (.slice (some ⟨b3, o3, none⟩) E.length cx) (F ++ rectsOf xa xb (C.take (p + 2))) C E w w6) := Lib.hid (fun v6 w6 h1 h2 => by
              rw [HF2.out]
              refine HO2.out.grow ?_ h2
              rw [rcells_app1, List.length_append]; exact h1)
            have HP3 : Hid ((p + 2) % 2 = 0) := Lib.hid (by have := HP2.out; omega)
            clear hb2 HO2 HK x0 x1 y0 y1 HP2 HF2
            obtain ⟨Ak, ck, rfl, _, _, _, _, _⟩ := own_rects HOWN.out
            go_wp2_with fail
            refine wp_region_held_drew (S := fun w' => w'.cell? ⟨b3, o3 + k, none⟩ = some (.int .i64 xa) ∧ w'.cell? ⟨b3, o3 + (k + 1), none⟩ = some (.int .i64 xb) ∧ w'.cell? ⟨b5, o5 + p, none⟩ = some (.int .i64 ya) ∧ w'.cell? ⟨b5, o5 + (p + 1), none⟩ = some (.int .i64 yb) ∧ b3 < w'.heap.size ∧ b5 < w'.heap.size) (by kernel_rfl) ?_ (fun hHeld => ?_)
            · exact E4.drewN HR4.out 1
            refine wpAnyH_take (i := 0) (oi := { dst := some 77, op := Go.Op.move (Go.Operand.tmp 7), type := 37, pos := "ref.go:146", after := #[], guard := none }) (v := ?_) rfl (by kernel_rfl) (by kernel_rfl) (by kernel_rfl) (fun _ _ _ h => h) (Or.inl ⟨by rfl, ?_⟩) (by assumption) ?_
            rotate_left
            · (intro w hSw; (try dsimp only at hSw); go_simp); try with_reducible rfl
            try simp only [Act.put, List.setIfInBounds_toArray, List.set_cons_zero, List.set_cons_succ]
            refine wpAnyH_take (i := 1) (oi := { dst := some 78, op := Go.Op.move (Go.Operand.tmp 8), type := 51, pos := "ref.go:146", after := #[], guard := none }) (v := ?_) rfl (by kernel_rfl) (by kernel_rfl) (by kernel_rfl) (fun _ _ _ h => h) (Or.inl ⟨by rfl, ?_⟩) (by assumption) ?_
            rotate_left
            · (intro w hSw; (try dsimp only at hSw); go_simp); try with_reducible rfl
            try simp only [Act.put, List.setIfInBounds_toArray, List.set_cons_zero, List.set_cons_succ]
            refine wpAnyH_take (i := 2) (oi := { dst := some 79, op := Go.Op.move (Go.Operand.tmp 11), type := 3, pos := "ref.go:146", after := #[], guard := none }) (v := ?_) rfl (by kernel_rfl) (by kernel_rfl) (by kernel_rfl) (fun _ _ _ h => h) (Or.inl ⟨by rfl, ?_⟩) (by assumption) ?_
            rotate_left
            · (intro w hSw; (try dsimp only at hSw); go_simp); try with_reducible rfl
            try simp only [Act.put, List.setIfInBounds_toArray, List.set_cons_zero, List.set_cons_succ]
            refine wpAnyH_take (i := 3) (oi := { dst := some 80, op := Go.Op.indexAddr 51 (Go.Operand.tmp 78) (Go.Operand.tmp 79), type := 0, pos := "ref.go:146", after := #[{ on := 1, ground := Go.Ground.data }, { on := 2, ground := Go.Ground.data }], guard := none }) (v := ?_) rfl (by kernel_rfl) (by kernel_rfl) (by kernel_rfl) (fun _ _ _ h => h) (Or.inl ⟨by rfl, ?_⟩) (by assumption) ?_
            rotate_left
            · (intro w hSw; (try dsimp only at hSw); go_simp); try with_reducible rfl
            try simp only [Act.put, List.setIfInBounds_toArray, List.set_cons_zero, List.set_cons_succ]
            refine wpAnyH_take (i := 4) (oi := { dst := some 81, op := Go.Op.load 3 (Go.Operand.tmp 80), type := 3, pos := "ref.go:146", after := #[{ on := 3, ground := Go.Ground.data }], guard := none }) (v := ?_) rfl (by kernel_rfl) (by kernel_rfl) (by kernel_rfl) (fun _ _ _ h => h) (Or.inl ⟨by rfl, ?_⟩) (by assumption) ?_
            rotate_left
            · (intro w hSw; (try dsimp only at hSw); go_simp); try with_reducible rfl
            try simp only [Act.put, List.setIfInBounds_toArray, List.set_cons_zero, List.set_cons_succ]
            refine wpAnyH_take (i := 5) (oi := { dst := some 82, op := Go.Op.move (Go.Operand.tmp 12), type := 51, pos := "ref.go:146", after := #[], guard := none }) (v := ?_) rfl (by kernel_rfl) (by kernel_rfl) (by kernel_rfl) (fun _ _ _ h => h) (Or.inl ⟨by rfl, ?_⟩) (by assumption) ?_
            rotate_left
            · (intro w hSw; (try dsimp only at hSw); go_simp); try with_reducible rfl
            try simp only [Act.put, List.setIfInBounds_toArray, List.set_cons_zero, List.set_cons_succ]
            refine wpAnyH_take (i := 6) (oi := { dst := some 83, op := Go.Op.move (Go.Operand.tmp 14), type := 3, pos := "ref.go:146", after := #[], guard := none }) (v := ?_) rfl (by kernel_rfl) (by kernel_rfl) (by kernel_rfl) (fun _ _ _ h => h) (Or.inl ⟨by rfl, ?_⟩) (by assumption) ?_
            rotate_left
            · (intro w hSw; (try dsimp only at hSw); go_simp); try with_reducible rfl
            try simp only [Act.put, List.setIfInBounds_toArray, List.set_cons_zero, List.set_cons_succ]
            refine wpAnyH_take (i := 7) (oi := { dst := some 84, op := Go.Op.indexAddr 51 (Go.Operand.tmp 82) (Go.Operand.tmp 83), type := 0, pos := "ref.go:146", after := #[{ on := 5, ground := Go.Ground.data }, { on := 6, ground := Go.Ground.data }], guard := none }) (v := ?_) rfl (by kernel_rfl) (by kernel_rfl) (by kernel_rfl) (fun _ _ _ h => h) (Or.inl ⟨by rfl, ?_⟩) (by assumption) ?_
            rotate_left
            · (intro w hSw; (try dsimp only at hSw); go_simp); try with_reducible rfl
            try simp only [Act.put, List.setIfInBounds_toArray, List.set_cons_zero, List.set_cons_succ]
            refine wpAnyH_take (i := 8) (oi := { dst := some 85, op := Go.Op.load 3 (Go.Operand.tmp 84), type := 3, pos := "ref.go:146", after := #[{ on := 7, ground := Go.Ground.data }], guard := none }) (v := ?_) rfl (by kernel_rfl) (by kernel_rfl) (by kernel_rfl) (fun _ _ _ h => h) (Or.inl ⟨by rfl, ?_⟩) (by assumption) ?_
            rotate_left
            · (intro w hSw; (try dsimp only at hSw); go_simp); try with_reducible rfl
            try simp only [Act.put, List.setIfInBounds_toArray, List.set_cons_zero, List.set_cons_succ]
            refine wpAnyH_take (i := 9) (oi := { dst := some 86, op := Go.Op.move (Go.Operand.tmp 8), type := 51, pos := "ref.go:146", after := #[], guard := none }) (v := ?_) rfl (by kernel_rfl) (by kernel_rfl) (by kernel_rfl) (fun _ _ _ h => h) (Or.inl ⟨by rfl, ?_⟩) (by assumption) ?_
            rotate_left
            · (intro w hSw; (try dsimp only at hSw); go_simp); try with_reducible rfl
            try simp only [Act.put, List.setIfInBounds_toArray, List.set_cons_zero, List.set_cons_succ]
            refine wpAnyH_take (i := 10) (oi := { dst := some 87, op := Go.Op.move (Go.Operand.tmp 11), type := 3, pos := "ref.go:146", after := #[], guard := none }) (v := ?_) rfl (by kernel_rfl) (by kernel_rfl) (by kernel_rfl) (fun _ _ _ h => h) (Or.inl ⟨by rfl, ?_⟩) (by assumption) ?_
            rotate_left
            · (intro w hSw; (try dsimp only at hSw); go_simp); try with_reducible rfl
            try simp only [Act.put, List.setIfInBounds_toArray, List.set_cons_zero, List.set_cons_succ]
            refine wpAnyH_take (i := 11) (oi := { dst := some 88, op := Go.Op.binOp Go.BinOp.add 3 (Go.Operand.tmp 87) (Go.Operand.const (Go.Value.int Go.IntKind.i64 1)) 3, type := 3, pos := "ref.go:146", after := #[{ on := 10, ground := Go.Ground.data }], guard := none }) (v := ?_) rfl (by kernel_rfl) (by kernel_rfl) (by kernel_rfl) (fun _ _ _ h => h) (Or.inl ⟨by rfl, ?_⟩) (by assumption) ?_
            rotate_left
            · (intro w hSw; (try dsimp only at hSw); go_simp); try with_reducible rfl
            try simp only [Act.put, List.setIfInBounds_toArray, List.set_cons_zero, List.set_cons_succ]
            refine wpAnyH_take (i := 12) (oi := { dst := some 89, op := Go.Op.indexAddr 51 (Go.Operand.tmp 86) (Go.Operand.tmp 88), type := 0, pos := "ref.go:146", after := #[{ on := 9, ground := Go.Ground.data }, { on := 11, ground := Go.Ground.data }], guard := none }) (v := ?_) rfl (by kernel_rfl) (by kernel_rfl) (by kernel_rfl) (fun _ _ _ h => h) (Or.inl ⟨by rfl, ?_⟩) (by assumption) ?_
            rotate_left
            · (intro w hSw; (try dsimp only at hSw); go_simp); try with_reducible rfl
            try simp only [Act.put, List.setIfInBounds_toArray, List.set_cons_zero, List.set_cons_succ]
            refine wpAnyH_take (i := 13) (oi := { dst := some 90, op := Go.Op.load 3 (Go.Operand.tmp 89), type := 3, pos := "ref.go:146", after := #[{ on := 12, ground := Go.Ground.data }], guard := none }) (v := ?_) rfl (by kernel_rfl) (by kernel_rfl) (by kernel_rfl) (fun _ _ _ h => h) (Or.inl ⟨by rfl, ?_⟩) (by assumption) ?_
            rotate_left
            · (intro w hSw; (try dsimp only at hSw); go_simp); try with_reducible rfl
            try simp only [Act.put, List.setIfInBounds_toArray, List.set_cons_zero, List.set_cons_succ]
            refine wpAnyH_take (i := 14) (oi := { dst := some 91, op := Go.Op.move (Go.Operand.tmp 12), type := 51, pos := "ref.go:146", after := #[], guard := none }) (v := ?_) rfl (by kernel_rfl) (by kernel_rfl) (by kernel_rfl) (fun _ _ _ h => h) (Or.inl ⟨by rfl, ?_⟩) (by assumption) ?_
            rotate_left
            · (intro w hSw; (try dsimp only at hSw); go_simp); try with_reducible rfl
            try simp only [Act.put, List.setIfInBounds_toArray, List.set_cons_zero, List.set_cons_succ]
            refine wpAnyH_take (i := 15) (oi := { dst := some 92, op := Go.Op.move (Go.Operand.tmp 14), type := 3, pos := "ref.go:146", after := #[], guard := none }) (v := ?_) rfl (by kernel_rfl) (by kernel_rfl) (by kernel_rfl) (fun _ _ _ h => h) (Or.inl ⟨by rfl, ?_⟩) (by assumption) ?_
            rotate_left
            · (intro w hSw; (try dsimp only at hSw); go_simp); try with_reducible rfl
            try simp only [Act.put, List.setIfInBounds_toArray, List.set_cons_zero, List.set_cons_succ]
            refine wpAnyH_take (i := 16) (oi := { dst := some 93, op := Go.Op.binOp Go.BinOp.add 3 (Go.Operand.tmp 92) (Go.Operand.const (Go.Value.int Go.IntKind.i64 1)) 3, type := 3, pos := "ref.go:146", after := #[{ on := 15, ground := Go.Ground.data }], guard := none }) (v := ?_) rfl (by kernel_rfl) (by kernel_rfl) (by kernel_rfl) (fun _ _ _ h => h) (Or.inl ⟨by rfl, ?_⟩) (by assumption) ?_
            rotate_left
            · (intro w hSw; (try dsimp only at hSw); go_simp); try with_reducible rfl
            try simp only [Act.put, List.setIfInBounds_toArray, List.set_cons_zero, List.set_cons_succ]
            refine wpAnyH_take (i := 17) (oi := { dst := some 94, op := Go.Op.indexAddr 51 (Go.Operand.tmp 91) (Go.Operand.tmp 93), type := 0, pos := "ref.go:146", after := #[{ on := 14, ground := Go.Ground.data }, { on := 16, ground := Go.Ground.data }], guard := none }) (v := ?_) rfl (by kernel_rfl) (by kernel_rfl) (by kernel_rfl) (fun _ _ _ h => h) (Or.inl ⟨by rfl, ?_⟩) (by assumption) ?_
            rotate_left
            · (intro w hSw; (try dsimp only at hSw); go_simp); try with_reducible rfl
            try simp only [Act.put, List.setIfInBounds_toArray, List.set_cons_zero, List.set_cons_succ]
            refine wpAnyH_take (i := 18) (oi := { dst := some 95, op := Go.Op.load 3 (Go.Operand.tmp 94), type := 3, pos := "ref.go:146", after := #[{ on := 17, ground := Go.Ground.data }], guard := none }) (v := ?_) rfl (by kernel_rfl) (by kernel_rfl) (by kernel_rfl) (fun _ _ _ h => h) (Or.inl ⟨by rfl, ?_⟩) (by assumption) ?_
            rotate_left
            · (intro w hSw; (try dsimp only at hSw); go_simp); try with_reducible rfl
            try simp only [Act.put, List.setIfInBounds_toArray, List.set_cons_zero, List.set_cons_succ]
            refine wpAnyH_take (i := 19) (oi := { dst := some 96, op := Go.Op.build 33 #[(0, Go.Operand.tmp 81), (1, Go.Operand.tmp 85), (2, Go.Operand.tmp 90), (3, Go.Operand.tmp 95)], type := 33, pos := "ref.go:146", after := #[{ on := 4, ground := Go.Ground.data }, { on := 8, ground := Go.Ground.data }, { on := 13, ground := Go.Ground.data }, { on := 18, ground := Go.Ground.data }], guard := none }) (v := ?_) rfl (by kernel_rfl) (by kernel_rfl) (by kernel_rfl) (fun _ _ _ h => h) (Or.inl ⟨by rfl, ?_⟩) (by assumption) ?_
            rotate_left
            · (intro w hSw; (try dsimp only at hSw); go_simp); try with_reducible rfl
            try simp only [Act.put, List.setIfInBounds_toArray, List.set_cons_zero, List.set_cons_succ]
            refine wpAnyH_ready (rs := [20]) (by kernel_rfl) (by simp) ?_
            refine AllReadyH.cons (o := { dst := some 97, op := Go.Op.buildSlice 37 1 #[(0, Go.Operand.tmp 96)], type := 37, pos := "ref.go:146", after := #[{ on := 19, ground := Go.Ground.data }], guard := none }) rfl (fun Kx hKx => ?_) AllReadyH.nil
            go_simp
            refine hKx.out _ _ (E4.go ‹_› ((Below.refl _ _).alloc (Nat.le_refl _) _)) (fun hHeld2 => ?_)
            clear hKx Kx hHeld
            have hHeld := hHeld2; clear hHeld2
            try simp only [Act.put, List.setIfInBounds_toArray, List.set_cons_zero, List.set_cons_succ]
            refine wpAnyH_ready (rs := [21]) (by kernel_rfl) (by simp) ?_
            refine AllReadyH.cons (o := { dst := some 98, op := Go.Op.call { callee := Go.Callee.builtin Go.Builtin.append, args := #[Go.Operand.tmp 77, Go.Operand.tmp 97], argTypes := #[37, 37] }, type := 37, pos := "ref.go:146", after := #[{ on := 0, ground := Go.Ground.data }, { on := 20, ground := Go.Ground.data }], guard := none }) rfl (fun Kx hKx => ?_) AllReadyH.nil
            try simp only [Act.put, List.setIfInBounds_toArray, List.set_cons_zero, List.set_cons_succ]
            refine wp_append_own _ (Operand.tmp 77) (Operand.tmp 97) 37 rfl w.heap.size 33 i0 (.agg #[.int .i64 0, .int .i64 0, .int .i64 0, .int .i64 0]) 4 32 Tryz.underlying37 hi9 hz0 hz1 hz2 rfl (by decide) (.slice Ak Fk.length ck) Fk.length (rcells Fk) rfl HOWN.out ⟨wr.drew.heap.size, 0, none⟩ 1 1 [.int .i64 xa, .int .i64 ya, .int .i64 xb, .int .i64 yb] rfl rfl ?d1 ?d2 ?d3 ?d4 ?d5 ?_
            case d1 => exact World.news_of_block (cs := #[.int .i64 xa, .int .i64 ya, .int .i64 xb, .int .i64 yb]) (t := 33) (fr := (0, 0)) (heap_alloc_new wr.drew _)
            case d2 => intro u hu; simp only [List.mem_cons, List.not_mem_nil, or_false] at hu; rcases hu with rfl | rfl | rfl | rfl <;> rfl
            case d3 => unfold maxLen; omega
            case d4 => omega
            case d5 => exact HSZ.out
            intro v6 w6 hown6 hgr6 _
            have HW6 := Lib.hid (HGROW.out v6 w6 hown6 hgr6)
            refine hKx.out _ _ (E4.grow ‹_› hgr6 HAP.out) (fun hHeld2 => ?_)
            clear hKx Kx hHeld hown6 hgr6
            have hHeld := hHeld2; clear hHeld2
            try simp only [Act.put, List.setIfInBounds_toArray, List.set_cons_zero, List.set_cons_succ]
            refine wpAnyH_take (i := 22) (oi := { dst := some 7, op := Go.Op.assign (Go.Operand.tmp 98), type := 37, pos := "ref.go:146", after := #[{ on := 21, ground := Go.Ground.data }, { on := 21, ground := Go.Ground.chain }, { on := 0, ground := Go.Ground.phase }, { on := 1, ground := Go.Ground.phase }, { on := 2, ground := Go.Ground.phase }, { on := 3, ground := Go.Ground.phase }, { on := 4, ground := Go.Ground.phase }, { on := 5, ground := Go.Ground.phase }, { on := 6, ground := Go.Ground.phase }, { on := 7, ground := Go.Ground.phase }, { on := 8, ground := Go.Ground.phase }, { on := 9, ground := Go.Ground.phase }, { on := 10, ground := Go.Ground.phase }, { on := 11, ground := Go.Ground.phase }, { on := 12, ground := Go.Ground.phase }, { on := 13, ground := Go.Ground.phase }, { on := 14, ground := Go.Ground.phase }, { on := 15, ground := Go.Ground.phase }, { on := 16, ground := Go.Ground.phase }, { on := 17, ground := Go.Ground.phase }, { on := 18, ground := Go.Ground.phase }, { on := 19, ground := Go.Ground.phase }, { on := 20, ground := Go.Ground.phase }, { on := 21, ground := Go.Ground.phase }], guard := none }) (v := ?_) rfl (by kernel_rfl) (by kernel_rfl) (by kernel_rfl) (fun _ _ _ h => h) (Or.inl ⟨by rfl, ?_⟩) (by assumption) ?_
            rotate_left
            · (intro w hSw; (try dsimp only at hSw); go_simp); try with_reducible rfl
            try simp only [Act.put, List.setIfInBounds_toArray, List.set_cons_zero, List.set_cons_succ]
            refine wpAnyH_done (by kernel_rfl) ?_ _
            clear hHeld
            go_wp2_with fail
            go_roundw
            case rel => exact ⟨p + 2, v6, by omega, by go_num, rfl, HP3, HW6⟩
            case measure => simp [intOf]; omega
          · obtain rfl : p = C.length := by have := HP2.out; have := HCE.out; omega
            rw [List.take_length, ← HF'.out] at HK
            have hl2 : Hid ((flatS S').length ≤ (k + 1) * 4000 ∧ C.length ≤ 4000) := Lib.hid (by
              rw [HF'.out, List.length_append]; have := rectsOf_len xa xb C; have := HL.out.1; omega)
            have p2 : ¬ (C.length : Int) + 1 < (C.length : Int) := by omega
            clear HF' HCE HP2 HL
            go_wp2_with fail
            go_roundw
            case rel => exact ⟨k + 1, S', C, F.length, _, _, by go_num, rfl, rfl, rfl, by omega, HRN, HK, hl2⟩
            case measure => simp [intOf]; omega
      · have d0 : decide ((0 : Int) < (k : Int)) = true := decide_eq_true (by omega)
        have d0n : decide (0 < k) = true := decide_eq_true (by omega)
        by_cases hC0 : C = []
        · have e0 : C.length = 0 := by rw [hC0]; rfl
          have d1 : decide ((0 : Int) < (C.length : Int)) = false := decide_eq_false (by omega)
          have d1n : decide (0 < C.length) = false := decide_eq_false (by omega)
          have hn : C = [] ∨ C ≠ was := Or.inl hC0
          obtain ⟨W9, hW9⟩ : ∃ W9, W9 = w5 := ⟨_, rfl⟩
          have HW9 : Hid (FoW (.slice Ao F.length co) (.slice Aw was.length cw) (.slice (some ⟨b3, o3, none⟩) E.length cx) F was E w W9) := Lib.hid (by rw [hW9]; exact HW5.out)
          have HC9 : Hid (W9.ownsRow w.heap.size 3 1 (.slice A5 C.length c5) C.length (icells C)) := Lib.hid (by rw [hW9]; exact HC5.out)
          rw [← hW9]
          clear hW9 HW5 HC5 R5 R6 hk0 e0 hC0
          obtain ⟨eF', HRN⟩ := HR.out.new hlt HEA.out.1 HEA.out.2 HCO.out (by rw [← HXA.out, ← HCX.out]; exact hn)
          rw [← HXA.out, ← HXB.out, ← HCX.out, ← HFS.out] at eF'
          rw [← HXA.out, ← HCX.out, ← HFS.out] at HRN
          obtain ⟨S', hS'⟩ : ∃ S', S' = growF c [] (E.take (k + 2)) := ⟨_, rfl⟩
          rw [← hS'] at eF' HRN
          have HRN := Lib.hid HRN
          have HF' := Lib.hid eF'
          clear eF' hS' hn HR
          have hCl : C.length ≤ 4000 := by rw [HCX.out]; exact HCL.out xa
          have HCE : Hid (C.length % 2 = 0) := Lib.hid (by rw [HCX.out]; exact (HCO.out xa).ev)
          have K5 : Hid (FoW (.slice Ao F.length co) (.slice A5 C.length c5) (.slice (some ⟨b3, o3, none⟩) E.length cx) (F ++ rectsOf xa xb (C.take 0)) C E w W9) := Lib.hid (by
            rw [List.take_zero, show rectsOf xa xb [] = [] from rfl, List.append_nil]; exact HW9.out.col HC9.out)
          clear HW9 HC9
          go_wp2_with fail
          go_loopw [7, 14] (fun vo k2 wq => ∃ (p : Nat) (vo0 : Value), p ≤ C.length ∧ k2 = .int .i64 p ∧ vo0 = vo ∧ Hid (p % 2 = 0) ∧ Hid (FoW vo0 (.slice A5 C.length c5) (.slice (some ⟨b3, o3, none⟩) E.length cx) (F ++ rectsOf xa xb (C.take p)) C E w wq)) (fun _ k2 _ => C.length - (intOf k2).toNat)
          case atStart => exact ⟨0, _, Nat.zero_le _, rfl, rfl, Lib.hid rfl, K5⟩
          case round =>
            clear K5
            obtain ⟨p, vk, hp, rfl, rfl, HP2, HK⟩ := hrel
            have p0 : (0 : Int) ≤ (p : Int) := by omega
            by_cases hpt : p + 1 < C.length
            · have p1 : (p : Int) < (C.length : Int) := by omega
              have p2 : (p : Int) + 1 < (C.length : Int) := by omega
              have p3 : (0 : Int) ≤ (p : Int) + 1 := by omega
              have pt : ((p : Int) + 1).toNat = p + 1 := by omega
              have k3 : (0 : Int) ≤ (k : Int) + 1 := by omega
              have kt : ((k : Int) + 1).toNat = k + 1 := by omega
              have qk : IntKind.i64.wrap ((k : Int) + 1) = (k : Int) + 1 := IntWalk.i64_in _ (by omega)
              have qp : IntKind.i64.wrap ((p : Int) + 1) = (p : Int) + 1 := IntWalk.i64_in _ (by omega)
              have hq5 := (irow_of HK.out.o2).2 (by omega)
              obtain ⟨b5, o5, rfl, hb5, hv5⟩ := hq5
              have hq3 := (irow_of HK.out.o3).2 (by omega)
              obtain ⟨b3', o3', e3, hb3', hv3'⟩ := hq3
              simp only [Option.some.injEq, Addr.mk.injEq, and_true] at e3
              obtain ⟨rfl, rfl⟩ := e3
              have x0 := hv3' k (by omega)
              have x1 := hv3' (k + 1) hlt
              have y0 := hv5 p (by omega)
              have y1 := hv5 (p + 1) hpt
              rw [← HXA.out] at x0
              rw [← HXB.out] at x1
              have hnx := rects_take2 xa xb p C HP2.out hpt
              obtain ⟨ya, hya⟩ : ∃ ya, ya = C[p] := ⟨_, rfl⟩
              obtain ⟨yb, hyb⟩ : ∃ yb, yb = C[p + 1] := ⟨_, rfl⟩
              rw [← hya] at y0 hnx
              rw [← hyb] at y1 hnx
              clear hya hyb hv5 hv3'
              obtain ⟨Fk, hFk⟩ : ∃ Fk, Fk = F ++ rectsOf xa xb (C.take p) := ⟨_, rfl⟩
              have hFk2 : F ++ rectsOf xa xb (C.take (p + 2)) = Fk ++ [⟨xa, ya, xb, yb⟩] := by rw [hnx, hFk, List.append_assoc]
              have hFl : Fk.length ≤ 4294967296 := by
                rw [hFk, List.length_append]
                have := rectsOf_len xa xb (C.take p)
                rw [List.length_take] at this
                have := HL.out.1
                omega
              rw [← hFk] at HK
              have HF2 := Lib.hid hFk2
              clear hFk hFk2 hnx
              have HR4 : Hid (E4 b3 (o3 + k) (o3 + (k + 1)) b5 (o5 + p) (o5 + (p + 1)) xa xb ya yb wr) := Lib.hid ⟨x0, x1, y0, y1, hb3', hb5⟩
              have hb2 : Below wr.heap.size wr (wr.drew.alloc (.cells #[.int .i64 xa, .int .i64 ya, .int .i64 xb, .int .i64 yb] 33)) := (below_drewN (Below.refl _ _) 1).alloc (Nat.le_refl _) _
              have HO2 := Lib.hid (HK.out.go hb2)
              have HOWN := Lib.hid HO2.out.o1
              have HSZ := Lib.hid HO2.out.bel.size
              have HAP : Hid (∀ g, vk.ownBlock = some g → g ≠ b3 ∧ g ≠ b5) := Lib.hid (fun g hg => ⟨fun e => vown_apart HK.out.o1 HK.out.o3 (by decide) g hg (by rw [e]; rfl), fun e => vown_apart HK.out.o1 HK.out.o2 (by decide) g hg (by rw [e]; rfl)⟩)
              have HGROW : Hid (∀ v6 w6, w6.ownsRow w.heap.size 33 4 v6 (Fk.length + 1) (rcells Fk ++ [.int .i64 xa, .int .i64 ya, .int .i64 xb, .int .i64 yb]) → (wr.drew.alloc (.cells #[.int .i64 xa, .int .i64 ya, .int .i64 xb, .int .i64 yb] 33)).grownBy w6 vk.ownBlock → FoW v6 (.slice (some ⟨b5, o5, none⟩) C.length c5) (.slice (some ⟨b3, o3, none⟩) E.length cx) (F ++ rectsOf xa xb (C.take (p + 2))) C E w w6) := Lib.hid (fun v6 w6 h1 h2 => by
                rw [HF2.out]
                refine HO2.out.grow ?_ h2
                rw [rcells_app1, List.length_append]; exact h1)
              have HP3 : Hid ((p + 2) % 2 = 0) := Lib.hid (by have := HP2.out; omega)
              clear hb2 HO2 HK x0 x1 y0 y1 HP2 HF2
              obtain ⟨Ak, ck, rfl, _, _, _, _, _⟩ := own_rects HOWN.out
              go_wp2_with fail
              refine wp_region_held_drew (S := fun w' => w'.cell? ⟨b3, o3 + k, none⟩ = some (.int .i64 xa) ∧ w'.cell? ⟨b3, o3 + (k + 1), none⟩ = some (.int .i64 xb) ∧ w'.cell? ⟨b5, o5 + p, none⟩ = some (.int .i64 ya) ∧ w'.cell? ⟨b5, o5 + (p + 1), none⟩ = some (.int .i64 yb) ∧ b3 < w'.heap.size ∧ b5 < w'.heap.size) (by kernel_rfl) ?_ (fun hHeld => ?_)
              · exact E4.drewN HR4.out 1
              refine wpAnyH_take (i := 0) (oi := { dst := some 77, op := Go.Op.move (Go.Operand.tmp 7), type := 37, pos := "ref.go:146", after := #[], guard := none }) (v := ?_) rfl (by kernel_rfl) (by kernel_rfl) (by kernel_rfl) (fun _ _ _ h => h) (Or.inl ⟨by rfl, ?_⟩) (by assumption) ?_
              rotate_left
              · (intro w hSw; (try dsimp only at hSw); go_simp); try with_reducible rfl
              try simp only [Act.put, List.setIfInBounds_toArray, List.set_cons_zero, List.set_cons_succ]
              refine wpAnyH_take (i := 1) (oi := { dst := some 78, op := Go.Op.move (Go.Operand.tmp 8), type := 51, pos := "ref.go:146", after := #[], guard := none }) (v := ?_) rfl (by kernel_rfl) (by kernel_rfl) (by kernel_rfl) (fun _ _ _ h => h) (Or.inl ⟨by rfl, ?_⟩) (by assumption) ?_
              rotate_left
              · (intro w hSw; (try dsimp only at hSw); go_simp); try with_reducible rfl
              try simp only [Act.put, List.setIfInBounds_toArray, List.set_cons_zero, List.set_cons_succ]
              refine wpAnyH_take (i := 2) (oi := { dst := some 79, op := Go.Op.move (Go.Operand.tmp 11), type := 3, pos := "ref.go:146", after := #[], guard := none }) (v := ?_) rfl (by kernel_rfl) (by kernel_rfl) (by kernel_rfl) (fun _ _ _ h => h) (Or.inl ⟨by rfl, ?_⟩) (by assumption) ?_
              rotate_left
              · (intro w hSw; (try dsimp only at hSw); go_simp); try with_reducible rfl
              try simp only [Act.put, List.setIfInBounds_toArray, List.set_cons_zero, List.set_cons_succ]
              refine wpAnyH_take (i := 3) (oi := { dst := some 80, op := Go.Op.indexAddr 51 (Go.Operand.tmp 78) (Go.Operand.tmp 79), type := 0, pos := "ref.go:146", after := #[{ on := 1, ground := Go.Ground.data }, { on := 2, ground := Go.Ground.data }], guard := none }) (v := ?_) rfl (by kernel_rfl) (by kernel_rfl) (by kernel_rfl) (fun _ _ _ h => h) (Or.inl ⟨by rfl, ?_⟩) (by assumption) ?_
              rotate_left
              · (intro w hSw; (try dsimp only at hSw); go_simp); try with_reducible rfl
              try simp only [Act.put, List.setIfInBounds_toArray, List.set_cons_zero, List.set_cons_succ]
              refine wpAnyH_take (i := 4) (oi := { dst := some 81, op := Go.Op.load 3 (Go.Operand.tmp 80), type := 3, pos := "ref.go:146", after := #[{ on := 3, ground := Go.Ground.data }], guard := none }) (v := ?_) rfl (by kernel_rfl) (by kernel_rfl) (by kernel_rfl) (fun _ _ _ h => h) (Or.inl ⟨by rfl, ?_⟩) (by assumption) ?_
              rotate_left
              · (intro w hSw; (try dsimp only at hSw); go_simp); try with_reducible rfl
              try simp only [Act.put, List.setIfInBounds_toArray, List.set_cons_zero, List.set_cons_succ]
              refine wpAnyH_take (i := 5) (oi := { dst := some 82, op := Go.Op.move (Go.Operand.tmp 12), type := 51, pos := "ref.go:146", after := #[], guard := none }) (v := ?_) rfl (by kernel_rfl) (by kernel_rfl) (by kernel_rfl) (fun _ _ _ h => h) (Or.inl ⟨by rfl, ?_⟩) (by assumption) ?_
              rotate_left
              · (intro w hSw; (try dsimp only at hSw); go_simp); try with_reducible rfl
              try simp only [Act.put, List.setIfInBounds_toArray, List.set_cons_zero, List.set_cons_succ]
              refine wpAnyH_take (i := 6) (oi := { dst := some 83, op := Go.Op.move (Go.Operand.tmp 14), type := 3, pos := "ref.go:146", after := #[], guard := none }) (v := ?_) rfl (by kernel_rfl) (by kernel_rfl) (by kernel_rfl) (fun _ _ _ h => h) (Or.inl ⟨by rfl, ?_⟩) (by assumption) ?_
              rotate_left
              · (intro w hSw; (try dsimp only at hSw); go_simp); try with_reducible rfl
              try simp only [Act.put, List.setIfInBounds_toArray, List.set_cons_zero, List.set_cons_succ]
              refine wpAnyH_take (i := 7) (oi := { dst := some 84, op := Go.Op.indexAddr 51 (Go.Operand.tmp 82) (Go.Operand.tmp 83), type := 0, pos := "ref.go:146", after := #[{ on := 5, ground := Go.Ground.data }, { on := 6, ground := Go.Ground.data }], guard := none }) (v := ?_) rfl (by kernel_rfl) (by kernel_rfl) (by kernel_rfl) (fun _ _ _ h => h) (Or.inl ⟨by rfl, ?_⟩) (by assumption) ?_
              rotate_left
              · (intro w hSw; (try dsimp only at hSw); go_simp); try with_reducible rfl
              try simp only [Act.put, List.setIfInBounds_toArray, List.set_cons_zero, List.set_cons_succ]
              refine wpAnyH_take (i := 8) (oi := { dst := some 85, op := Go.Op.load 3 (Go.Operand.tmp 84), type := 3, pos := "ref.go:146", after := #[{ on := 7, ground := Go.Ground.data }], guard := none }) (v := ?_) rfl (by kernel_rfl) (by kernel_rfl) (by kernel_rfl) (fun _ _ _ h => h) (Or.inl ⟨by rfl, ?_⟩) (by assumption) ?_
              rotate_left
              · (intro w hSw; (try dsimp only at hSw); go_simp); try with_reducible rfl
              try simp only [Act.put, List.setIfInBounds_toArray, List.set_cons_zero, List.set_cons_succ]
              refine wpAnyH_take (i := 9) (oi := { dst := some 86, op := Go.Op.move (Go.Operand.tmp 8), type := 51, pos := "ref.go:146", after := #[], guard := none }) (v := ?_) rfl (by kernel_rfl) (by kernel_rfl) (by kernel_rfl) (fun _ _ _ h => h) (Or.inl ⟨by rfl, ?_⟩) (by assumption) ?_
              rotate_left
              · (intro w hSw; (try dsimp only at hSw); go_simp); try with_reducible rfl
              try simp only [Act.put, List.setIfInBounds_toArray, List.set_cons_zero, List.set_cons_succ]
              refine wpAnyH_take (i := 10) (oi := { dst := some 87, op := Go.Op.move (Go.Operand.tmp 11), type := 3, pos := "ref.go:146", after := #[], guard := none }) (v := ?_) rfl (by kernel_rfl) (by kernel_rfl) (by kernel_rfl) (fun _ _ _ h => h) (Or.inl ⟨by rfl, ?_⟩) (by assumption) ?_
              rotate_left
              · (intro w hSw; (try dsimp only at hSw); go_simp); try with_reducible rfl
              try simp only [Act.put, List.setIfInBounds_toArray, List.set_cons_zero, List.set_cons_succ]
              refine wpAnyH_take (i := 11) (oi := { dst := some 88, op := Go.Op.binOp Go.BinOp.add 3 (Go.Operand.tmp 87) (Go.Operand.const (Go.Value.int Go.IntKind.i64 1)) 3, type := 3, pos := "ref.go:146", after := #[{ on := 10, ground := Go.Ground.data }], guard := none }) (v := ?_) rfl (by kernel_rfl) (by kernel_rfl) (by kernel_rfl) (fun _ _ _ h => h) (Or.inl ⟨by rfl, ?_⟩) (by assumption) ?_
              rotate_left
              · (intro w hSw; (try dsimp only at hSw); go_simp); try with_reducible rfl
              try simp only [Act.put, List.setIfInBounds_toArray, List.set_cons_zero, List.set_cons_succ]
              refine wpAnyH_take (i := 12) (oi := { dst := some 89, op := Go.Op.indexAddr 51 (Go.Operand.tmp 86) (Go.Operand.tmp 88), type := 0, pos := "ref.go:146", after := #[{ on := 9, ground := Go.Ground.data }, { on := 11, ground := Go.Ground.data }], guard := none }) (v := ?_) rfl (by kernel_rfl) (by kernel_rfl) (by kernel_rfl) (fun _ _ _ h => h) (Or.inl ⟨by rfl, ?_⟩) (by assumption) ?_
              rotate_left
              · (intro w hSw; (try dsimp only at hSw); go_simp); try with_reducible rfl
              try simp only [Act.put, List.setIfInBounds_toArray, List.set_cons_zero, List.set_cons_succ]
              refine wpAnyH_take (i := 13) (oi := { dst := some 90, op := Go.Op.load 3 (Go.Operand.tmp 89), type := 3, pos := "ref.go:146", after := #[{ on := 12, ground := Go.Ground.data }], guard := none }) (v := ?_) rfl (by kernel_rfl) (by kernel_rfl) (by kernel_rfl) (fun _ _ _ h => h) (Or.inl ⟨by rfl, ?_⟩) (by assumption) ?_
              rotate_left
              · (intro w hSw; (try dsimp only at hSw); go_simp); try with_reducible rfl
              try simp only [Act.put, List.setIfInBounds_toArray, List.set_cons_zero, List.set_cons_succ]
              refine wpAnyH_take (i := 14) (oi := { dst := some 91, op := Go.Op.move (Go.Operand.tmp 12), type := 51, pos := "ref.go:146", after := #[], guard := none }) (v := ?_) rfl (by kernel_rfl) (by kernel_rfl) (by kernel_rfl) (fun _ _ _ h => h) (Or.inl ⟨by rfl, ?_⟩) (by assumption) ?_
              rotate_left
              · (intro w hSw; (try dsimp only at hSw); go_simp); try with_reducible rfl
              try simp only [Act.put, List.setIfInBounds_toArray, List.set_cons_zero, List.set_cons_succ]
              refine wpAnyH_take (i := 15) (oi := { dst := some 92, op := Go.Op.move (Go.Operand.tmp 14), type := 3, pos := "ref.go:146", after := #[], guard := none }) (v := ?_) rfl (by kernel_rfl) (by kernel_rfl) (by kernel_rfl) (fun _ _ _ h => h) (Or.inl ⟨by rfl, ?_⟩) (by assumption) ?_
              rotate_left
              · (intro w hSw; (try dsimp only at hSw); go_simp); try with_reducible rfl
              try simp only [Act.put, List.setIfInBounds_toArray, List.set_cons_zero, List.set_cons_succ]
              refine wpAnyH_take (i := 16) (oi := { dst := some 93, op := Go.Op.binOp Go.BinOp.add 3 (Go.Operand.tmp 92) (Go.Operand.const (Go.Value.int Go.IntKind.i64 1)) 3, type := 3, pos := "ref.go:146", after := #[{ on := 15, ground := Go.Ground.data }], guard := none }) (v := ?_) rfl (by kernel_rfl) (by kernel_rfl) (by kernel_rfl) (fun _ _ _ h => h) (Or.inl ⟨by rfl, ?_⟩) (by assumption) ?_
              rotate_left
              · (intro w hSw; (try dsimp only at hSw); go_simp); try with_reducible rfl
              try simp only [Act.put, List.setIfInBounds_toArray, List.set_cons_zero, List.set_cons_succ]
              refine wpAnyH_take (i := 17) (oi := { dst := some 94, op := Go.Op.indexAddr 51 (Go.Operand.tmp 91) (Go.Operand.tmp 93), type := 0, pos := "ref.go:146", after := #[{ on := 14, ground := Go.Ground.data }, { on := 16, ground := Go.Ground.data }], guard := none }) (v := ?_) rfl (by kernel_rfl) (by kernel_rfl) (by kernel_rfl) (fun _ _ _ h => h) (Or.inl ⟨by rfl, ?_⟩) (by assumption) ?_
              rotate_left
              · (intro w hSw; (try dsimp only at hSw); go_simp); try with_reducible rfl
              try simp only [Act.put, List.setIfInBounds_toArray, List.set_cons_zero, List.set_cons_succ]
              refine wpAnyH_take (i := 18) (oi := { dst := some 95, op := Go.Op.load 3 (Go.Operand.tmp 94), type := 3, pos := "ref.go:146", after := #[{ on := 17, ground := Go.Ground.data }], guard := none }) (v := ?_) rfl (by kernel_rfl) (by kernel_rfl) (by kernel_rfl) (fun _ _ _ h => h) (Or.inl ⟨by rfl, ?_⟩) (by assumption) ?_
              rotate_left
              · (intro w hSw; (try dsimp only at hSw); go_simp); try with_reducible rfl
              try simp only [Act.put, List.setIfInBounds_toArray, List.set_cons_zero, List.set_cons_succ]
              refine wpAnyH_take (i := 19) (oi := { dst := some 96, op := Go.Op.build 33 #[(0, Go.Operand.tmp 81), (1, Go.Operand.tmp 85), (2, Go.Operand.tmp 90), (3, Go.Operand.tmp 95)], type := 33, pos := "ref.go:146", after := #[{ on := 4, ground := Go.Ground.data }, { on := 8, ground := Go.Ground.data }, { on := 13, ground := Go.Ground.data }, { on := 18, ground := Go.Ground.data }], guard := none }) (v := ?_) rfl (by kernel_rfl) (by kernel_rfl) (by kernel_rfl) (fun _ _ _ h => h) (Or.inl ⟨by rfl, ?_⟩) (by assumption) ?_
              rotate_left
              · (intro w hSw; (try dsimp only at hSw); go_simp); try with_reducible rfl
              try simp only [Act.put, List.setIfInBounds_toArray, List.set_cons_zero, List.set_cons_succ]
              refine wpAnyH_ready (rs := [20]) (by kernel_rfl) (by simp) ?_
              refine AllReadyH.cons (o := { dst := some 97, op := Go.Op.buildSlice 37 1 #[(0, Go.Operand.tmp 96)], type := 37, pos := "ref.go:146", after := #[{ on := 19, ground := Go.Ground.data }], guard := none }) rfl (fun Kx hKx => ?_) AllReadyH.nil
              go_simp
              refine hKx.out _ _ (E4.go ‹_› ((Below.refl _ _).alloc (Nat.le_refl _) _)) (fun hHeld2 => ?_)
              clear hKx Kx hHeld
              have hHeld := hHeld2; clear hHeld2
              try simp only [Act.put, List.setIfInBounds_toArray, List.set_cons_zero, List.set_cons_succ]
              refine wpAnyH_ready (rs := [21]) (by kernel_rfl) (by simp) ?_
              refine AllReadyH.cons (o := { dst := some 98, op := Go.Op.call { callee := Go.Callee.builtin Go.Builtin.append, args := #[Go.Operand.tmp 77, Go.Operand.tmp 97], argTypes := #[37, 37] }, type := 37, pos := "ref.go:146", after := #[{ on := 0, ground := Go.Ground.data }, { on := 20, ground := Go.Ground.data }], guard := none }) rfl (fun Kx hKx => ?_) AllReadyH.nil
              try simp only [Act.put, List.setIfInBounds_toArray, List.set_cons_zero, List.set_cons_succ]
              refine wp_append_own _ (Operand.tmp 77) (Operand.tmp 97) 37 rfl w.heap.size 33 i0 (.agg #[.int .i64 0, .int .i64 0, .int .i64 0, .int .i64 0]) 4 32 Tryz.underlying37 hi9 hz0 hz1 hz2 rfl (by decide) (.slice Ak Fk.length ck) Fk.length (rcells Fk) rfl HOWN.out ⟨wr.drew.heap.size, 0, none⟩ 1 1 [.int .i64 xa, .int .i64 ya, .int .i64 xb, .int .i64 yb] rfl rfl ?d1 ?d2 ?d3 ?d4 ?d5 ?_
              case d1 => exact World.news_of_block (cs := #[.int .i64 xa, .int .i64 ya, .int .i64 xb, .int .i64 yb]) (t := 33) (fr := (0, 0)) (heap_alloc_new wr.drew _)
              case d2 => intro u hu; simp only [List.mem_cons, List.not_mem_nil, or_false] at hu; rcases hu with rfl | rfl | rfl | rfl <;> rfl
              case d3 => unfold maxLen; omega
              case d4 => omega
              case d5 => exact HSZ.out
              intro v6 w6 hown6 hgr6 _
              have HW6 := Lib.hid (HGROW.out v6 w6 hown6 hgr6)
              refine hKx.out _ _ (E4.grow ‹_› hgr6 HAP.out) (fun hHeld2 => ?_)
              clear hKx Kx hHeld hown6 hgr6
              have hHeld := hHeld2; clear hHeld2
              try simp only [Act.put, List.setIfInBounds_toArray, List.set_cons_zero, List.set_cons_succ]
              refine wpAnyH_take (i := 22) (oi := { dst := some 7, op := Go.Op.assign (Go.Operand.tmp 98), type := 37, pos := "ref.go:146", after := #[{ on := 21, ground := Go.Ground.data }, { on := 21, ground := Go.Ground.chain }, { on := 0, ground := Go.Ground.phase }, { on := 1, ground := Go.Ground.phase }, { on := 2, ground := Go.Ground.phase }, { on := 3, ground := Go.Ground.phase }, { on := 4, ground := Go.Ground.phase }, { on := 5, ground := Go.Ground.phase }, { on := 6, ground := Go.Ground.phase }, { on := 7, ground := Go.Ground.phase }, { on := 8, ground := Go.Ground.phase }, { on := 9, ground := Go.Ground.phase }, { on := 10, ground := Go.Ground.phase }, { on := 11, ground := Go.Ground.phase }, { on := 12, ground := Go.Ground.phase }, { on := 13, ground := Go.Ground.phase }, { on := 14, ground := Go.Ground.phase }, { on := 15, ground := Go.Ground.phase }, { on := 16, ground := Go.Ground.phase }, { on := 17, ground := Go.Ground.phase }, { on := 18, ground := Go.Ground.phase }, { on := 19, ground := Go.Ground.phase }, { on := 20, ground := Go.Ground.phase }, { on := 21, ground := Go.Ground.phase }], guard := none }) (v := ?_) rfl (by kernel_rfl) (by kernel_rfl) (by kernel_rfl) (fun _ _ _ h => h) (Or.inl ⟨by rfl, ?_⟩) (by assumption) ?_
              rotate_left
              · (intro w hSw; (try dsimp only at hSw); go_simp); try with_reducible rfl
              try simp only [Act.put, List.setIfInBounds_toArray, List.set_cons_zero, List.set_cons_succ]
              refine wpAnyH_done (by kernel_rfl) ?_ _
              clear hHeld
              go_wp2_with fail
              go_roundw
              case rel => exact ⟨p + 2, v6, by omega, by go_num, rfl, HP3, HW6⟩
              case measure => simp [intOf]; omega
            · obtain rfl : p = C.length := by have := HP2.out; have := HCE.out; omega
              rw [List.take_length, ← HF'.out] at HK
              have hl2 : Hid ((flatS S').length ≤ (k + 1) * 4000 ∧ C.length ≤ 4000) := Lib.hid (by
                rw [HF'.out, List.length_append]; have := rectsOf_len xa xb C; have := HL.out.1; omega)
              have p2 : ¬ (C.length : Int) + 1 < (C.length : Int) := by omega
              clear HF' HCE HP2 HL
              go_wp2_with fail
              go_roundw
              case rel => exact ⟨k + 1, S', C, F.length, _, _, by go_num, rfl, rfl, rfl, by omega, HRN, HK, hl2⟩
              case measure => simp [intOf]; omega
        · have e0 : 0 < C.length := List.length_pos_iff.2 hC0
          have d1 : decide ((0 : Int) < (C.length : Int)) = true := decide_eq_true (by omega)
          have d1n : decide (0 < C.length) = true := decide_eq_true e0
          have hcl5 : C.length ≤ 4000 := by rw [HCX.out]; exact HCL.out xa
          have HIN := Lib.hid (vints_any A5 c5 Aw cw C was w5 R5.out R6.out (by omega) (by have := HL.out.2; omega))
          by_cases hCw : C = was
          · rw [decide_eq_true hCw] at HIN
            subst hCw
            have hnw := hC0
            clear hk0 hC0 e0 hcl5
            go_wp2_with fail
            refine HIN.out.mono ?_
            rintro e6 w6 ⟨rfl, hb6⟩
            obtain ⟨W9, hW9⟩ : ∃ W9, W9 = w6 := ⟨_, rfl⟩
            have HW9 : Hid (FoW (.slice Ao F.length co) (.slice Aw C.length cw) (.slice (some ⟨b3, o3, none⟩) E.length cx) F C E w W9) := Lib.hid (by rw [hW9]; exact HW5.out.go hb6)
            have HC9 : Hid (W9.ownsRow w.heap.size 3 1 (.slice A5 C.length c5) C.length (icells C)) := Lib.hid (by rw [hW9]; exact own_go HC5.out hb6)
            rw [← hW9]
            clear hW9 HW5 HC5 R5 R6 HIN hb6
            obtain ⟨T, R, eFS, eL, eF', HRN⟩ := HR.out.wide hlt HEA.out.1 HEA.out.2 HCO.out (by rw [← HXA.out, ← HCX.out]) hnw
            rw [← HFS.out] at eFS
            rw [← HXB.out] at eF'
            obtain ⟨S', hS'⟩ : ∃ S', S' = growF c [] (E.take (k + 2)) := ⟨_, rfl⟩
            rw [← hS'] at eF' HRN
            have HRN := Lib.hid HRN
            have HF' := Lib.hid eF'
            clear eF' hS' HR hnw
            subst eL
            have K5 : Hid (FoW (.slice Ao F.length co) (.slice Aw C.length cw) (.slice (some ⟨b3, o3, none⟩) E.length cx) (widL T R xb 0) C E w W9) := Lib.hid (by rw [widL_zero, ← eFS]; exact HW9.out)
            have hTR : F.length = T.length + R.length := by rw [eFS, List.length_append]
            obtain ⟨nF, hnF⟩ : ∃ nF, nF = F.length := ⟨_, rfl⟩
            rw [← hnF] at K5 hTR ⊢
            have HNF := Lib.hid hnF
            have HTR := Lib.hid hTR
            clear hTR hnF HW9 HC9 eFS
            have hnl : nF ≤ 4294967296 := by rw [HNF.out]; have := HL.out.1; omega
            go_wp2_with fail
            go_loopw [13] (fun kk wq => ∃ (m j : Nat), m ≤ R.length ∧ j = T.length + m ∧ kk = .int .i64 j ∧ Hid (FoW (.slice Ao nF co) (.slice Aw C.length cw) (.slice (some ⟨b3, o3, none⟩) E.length cx) (widL T R xb m) C E w wq)) (fun kk _ => nF - (intOf kk).toNat)
            case atStart => exact ⟨0, _, Nat.zero_le _, rfl, rfl, K5⟩
            case round =>
              clear K5
              obtain ⟨m, j, hm, hj, rfl, HK⟩ := hrel
              have j0' : (0 : Int) ≤ (j : Int) := by omega
              by_cases hmt : m < R.length
              · have j1' : (j : Int) < (nF : Int) := by have := HTR.out; omega
                have k3 : (0 : Int) ≤ (k : Int) + 1 := by omega
                have kt : ((k : Int) + 1).toNat = k + 1 := by omega
                have hwl := widL_len T R xb m
                obtain ⟨A6, c6, e6, hrow6, _, _, hA6, _⟩ := own_rects HK.out.o1
                obtain ⟨g, rfl, hg1, hg2⟩ := hA6 (by omega)
                injection e6 with e61 e62 e63
                subst e61
                have hnn : nF = (widL T R xb m).length := by have := HTR.out; omega
                have hfz : wr.frozen? ⟨g, j * 4 + 2, none⟩ = false := by
                  have := HK.out.o1; rw [← hnn] at this; exact this.frozenAt (j * 4 + 2)
                obtain ⟨hg2', hcells⟩ := RRow.some hrow6 (by omega)
                have hcl := (hcells j (by omega)).2.2.1
                rw [Nat.zero_add] at hcl
                obtain ⟨hj2, hset⟩ := widL_set T R xb m hmt
                rw [← hj] at hj2
                have hset2 : Hid ((rcells (widL T R xb m)).set (j * 4 + 2) (.int .i64 xb) = rcells (widL T R xb (m + 1))) := Lib.hid (by
                  rw [(rcells_set _ j hj2 xb).1, ← hset]
                  subst hj; rfl)
                clear hset
                generalize ((widL T R xb m)[j]).X1 = y9 at hcl
                have hq3 := (irow_of HK.out.o3).2 (by omega)
                obtain ⟨b3', o3', e3, hb3', hv3'⟩ := hq3
                simp only [Option.some.injEq, Addr.mk.injEq, and_true] at e3
                obtain ⟨rfl, rfl⟩ := e3
                have x1 := hv3' (k + 1) hlt
                rw [← HXB.out] at x1
                have HK2 := Lib.hid (HK.out.set hnn (by rw [widL_len, widL_len]) hset2.out)
                have HJ := Lib.hid hj
                have HMT := Lib.hid hmt
                clear hv3' hcells hrow6 hA6 hset2 HK hnn hwl hj2 hj hmt hm e62 e63
                go_wp2_with fail
                go_roundw
                case rel => exact ⟨m + 1, j + 1, HMT.out, by have := HJ.out; omega, by go_num, HK2⟩
                case measure => simp [intOf]; omega
              · obtain rfl : m = R.length := by omega
                rw [widL_all, ← HF'.out] at HK
                have hnS : nF = (flatS S').length := by
                  obtain ⟨A6, c6, e6, _⟩ := own_rects HK.out.o1
                  injection e6
                have hl2 : Hid ((flatS S').length ≤ (k + 1) * 4000 ∧ C.length ≤ 4000) := Lib.hid (by
                  rw [← hnS, HNF.out]; have := HL.out; omega)
                have HNS := Lib.hid hnS
                have j1' : ¬ (j : Int) < (nF : Int) := by have := HTR.out; omega
                clear HF' HL hnS hj
                go_wp2_with fail
                go_roundw
                case rel => exact ⟨k + 1, S', C, T.length, _, _, by go_num, rfl, rfl, rfl, by omega, HRN, by first | exact HK | (rw [← HNS.out]; exact HK), hl2⟩
                case measure => simp [intOf]; omega
          · rw [decide_eq_false hCw] at HIN
            have hn : C = [] ∨ C ≠ was := Or.inr hCw
            clear hk0 hC0 e0 hcl5 hCw
            go_wp2_with fail
            refine HIN.out.mono ?_
            rintro e6 w6 ⟨rfl, hb6⟩
            obtain ⟨W9, hW9⟩ : ∃ W9, W9 = w6 := ⟨_, rfl⟩
            have HW9 : Hid (FoW (.slice Ao F.length co) (.slice Aw was.length cw) (.slice (some ⟨b3, o3, none⟩) E.length cx) F was E w W9) := Lib.hid (by rw [hW9]; exact HW5.out.go hb6)
            have HC9 : Hid (W9.ownsRow w.heap.size 3 1 (.slice A5 C.length c5) C.length (icells C)) := Lib.hid (by rw [hW9]; exact own_go HC5.out hb6)
            rw [← hW9]
            clear hW9 HW5 HC5 R5 R6 HIN hb6
            obtain ⟨eF', HRN⟩ := HR.out.new hlt HEA.out.1 HEA.out.2 HCO.out (by rw [← HXA.out, ← HCX.out]; exact hn)
            rw [← HXA.out, ← HXB.out, ← HCX.out, ← HFS.out] at eF'
            rw [← HXA.out, ← HCX.out, ← HFS.out] at HRN
            obtain ⟨S', hS'⟩ : ∃ S', S' = growF c [] (E.take (k + 2)) := ⟨_, rfl⟩
            rw [← hS'] at eF' HRN
            have HRN := Lib.hid HRN
            have HF' := Lib.hid eF'
            clear eF' hS' hn HR
            have hCl : C.length ≤ 4000 := by rw [HCX.out]; exact HCL.out xa
            have HCE : Hid (C.length % 2 = 0) := Lib.hid (by rw [HCX.out]; exact (HCO.out xa).ev)
            have K5 : Hid (FoW (.slice Ao F.length co) (.slice A5 C.length c5) (.slice (some ⟨b3, o3, none⟩) E.length cx) (F ++ rectsOf xa xb (C.take 0)) C E w W9) := Lib.hid (by
              rw [List.take_zero, show rectsOf xa xb [] = [] from rfl, List.append_nil]; exact HW9.out.col HC9.out)
            clear HW9 HC9
            go_wp2_with fail
            go_loopw [7, 14] (fun vo k2 wq => ∃ (p : Nat) (vo0 : Value), p ≤ C.length ∧ k2 = .int .i64 p ∧ vo0 = vo ∧ Hid (p % 2 = 0) ∧ Hid (FoW vo0 (.slice A5 C.length c5) (.slice (some ⟨b3, o3, none⟩) E.length cx) (F ++ rectsOf xa xb (C.take p)) C E w wq)) (fun _ k2 _ => C.length - (intOf k2).toNat)
            case atStart => exact ⟨0, _, Nat.zero_le _, rfl, rfl, Lib.hid rfl, K5⟩
            case round =>
              clear K5
              obtain ⟨p, vk, hp, rfl, rfl, HP2, HK⟩ := hrel
              have p0 : (0 : Int) ≤ (p : Int) := by omega
              by_cases hpt : p + 1 < C.length
              · have p1 : (p : Int) < (C.length : Int) := by omega
                have p2 : (p : Int) + 1 < (C.length : Int) := by omega
                have p3 : (0 : Int) ≤ (p : Int) + 1 := by omega
                have pt : ((p : Int) + 1).toNat = p + 1 := by omega
                have k3 : (0 : Int) ≤ (k : Int) + 1 := by omega
                have kt : ((k : Int) + 1).toNat = k + 1 := by omega
                have qk : IntKind.i64.wrap ((k : Int) + 1) = (k : Int) + 1 := IntWalk.i64_in _ (by omega)
                have qp : IntKind.i64.wrap ((p : Int) + 1) = (p : Int) + 1 := IntWalk.i64_in _ (by omega)
                have hq5 := (irow_of HK.out.o2).2 (by omega)
                obtain ⟨b5, o5, rfl, hb5, hv5⟩ := hq5
                have hq3 := (irow_of HK.out.o3).2 (by omega)
                obtain ⟨b3', o3', e3, hb3', hv3'⟩ := hq3
                simp only [Option.some.injEq, Addr.mk.injEq, and_true] at e3
                obtain ⟨rfl, rfl⟩ := e3
                have x0 := hv3' k (by omega)
                have x1 := hv3' (k + 1) hlt
                have y0 := hv5 p (by omega)
                have y1 := hv5 (p + 1) hpt
                rw [← HXA.out] at x0
                rw [← HXB.out] at x1
                have hnx := rects_take2 xa xb p C HP2.out hpt
                obtain ⟨ya, hya⟩ : ∃ ya, ya = C[p] := ⟨_, rfl⟩
                obtain ⟨yb, hyb⟩ : ∃ yb, yb = C[p + 1] := ⟨_, rfl⟩
                rw [← hya] at y0 hnx
                rw [← hyb] at y1 hnx
                clear hya hyb hv5 hv3'
                obtain ⟨Fk, hFk⟩ : ∃ Fk, Fk = F ++ rectsOf xa xb (C.take p) := ⟨_, rfl⟩
                have hFk2 : F ++ rectsOf xa xb (C.take (p + 2)) = Fk ++ [⟨xa, ya, xb, yb⟩] := by rw [hnx, hFk, List.append_assoc]
                have hFl : Fk.length ≤ 4294967296 := by
                  rw [hFk, List.length_append]
                  have := rectsOf_len xa xb (C.take p)
                  rw [List.length_take] at this
                  have := HL.out.1
                  omega
                rw [← hFk] at HK
                have HF2 := Lib.hid hFk2
                clear hFk hFk2 hnx
                have HR4 : Hid (E4 b3 (o3 + k) (o3 + (k + 1)) b5 (o5 + p) (o5 + (p + 1)) xa xb ya yb wr) := Lib.hid ⟨x0, x1, y0, y1, hb3', hb5⟩
                have hb2 : Below wr.heap.size wr (wr.drew.alloc (.cells #[.int .i64 xa, .int .i64 ya, .int .i64 xb, .int .i64 yb] 33)) := (below_drewN (Below.refl _ _) 1).alloc (Nat.le_refl _) _
                have HO2 := Lib.hid (HK.out.go hb2)
                have HOWN := Lib.hid HO2.out.o1
                have HSZ := Lib.hid HO2.out.bel.size
                have HAP : Hid (∀ g, vk.ownBlock = some g → g ≠ b3 ∧ g ≠ b5) := Lib.hid (fun g hg => ⟨fun e => vown_apart HK.out.o1 HK.out.o3 (by decide) g hg (by rw [e]; rfl), fun e => vown_apart HK.out.o1 HK.out.o2 (by decide) g hg (by rw [e]; rfl)⟩)
                have HGROW : Hid (∀ v6 w6, w6.ownsRow w.heap.size 33 4 v6 (Fk.length + 1) (rcells Fk ++ [.int .i64 xa, .int .i64 ya, .int .i64 xb, .int .i64 yb]) → (wr.drew.alloc (.cells #[.int .i64 xa, .int .i64 ya, .int .i64 xb, .int .i64 yb] 33)).grownBy w6 vk.ownBlock → FoW v6 (.slice (some ⟨b5, o5, none⟩) C.length c5) (.slice (some ⟨b3, o3, none⟩) E.length cx) (F ++ rectsOf xa xb (C.take (p + 2))) C E w w6) := Lib.hid (fun v6 w6 h1 h2 => by
                  rw [HF2.out]
                  refine HO2.out.grow ?_ h2
                  rw [rcells_app1, List.length_append]; exact h1)
                have HP3 : Hid ((p + 2) % 2 = 0) := Lib.hid (by have := HP2.out; omega)
                clear hb2 HO2 HK x0 x1 y0 y1 HP2 HF2
                obtain ⟨Ak, ck, rfl, _, _, _, _, _⟩ := own_rects HOWN.out
                go_wp2_with fail
                refine wp_region_held_drew (S := fun w' => w'.cell? ⟨b3, o3 + k, none⟩ = some (.int .i64 xa) ∧ w'.cell? ⟨b3, o3 + (k + 1), none⟩ = some (.int .i64 xb) ∧ w'.cell? ⟨b5, o5 + p, none⟩ = some (.int .i64 ya) ∧ w'.cell? ⟨b5, o5 + (p + 1), none⟩ = some (.int .i64 yb) ∧ b3 < w'.heap.size ∧ b5 < w'.heap.size) (by kernel_rfl) ?_ (fun hHeld => ?_)
                · exact E4.drewN HR4.out 1
                refine wpAnyH_take (i := 0) (oi := { dst := some 77, op := Go.Op.move (Go.Operand.tmp 7), type := 37, pos := "ref.go:146", after := #[], guard := none }) (v := ?_) rfl (by kernel_rfl) (by kernel_rfl) (by kernel_rfl) (fun _ _ _ h => h) (Or.inl ⟨by rfl, ?_⟩) (by assumption) ?_
                rotate_left
                · (intro w hSw; (try dsimp only at hSw); go_simp); try with_reducible rfl
                try simp only [Act.put, List.setIfInBounds_toArray, List.set_cons_zero, List.set_cons_succ]
                refine wpAnyH_take (i := 1) (oi := { dst := some 78, op := Go.Op.move (Go.Operand.tmp 8), type := 51, pos := "ref.go:146", after := #[], guard := none }) (v := ?_) rfl (by kernel_rfl) (by kernel_rfl) (by kernel_rfl) (fun _ _ _ h => h) (Or.inl ⟨by rfl, ?_⟩) (by assumption) ?_
                rotate_left
                · (intro w hSw; (try dsimp only at hSw); go_simp); try with_reducible rfl
                try simp only [Act.put, List.setIfInBounds_toArray, List.set_cons_zero, List.set_cons_succ]
                refine wpAnyH_take (i := 2) (oi := { dst := some 79, op := Go.Op.move (Go.Operand.tmp 11), type := 3, pos := "ref.go:146", after := #[], guard := none }) (v := ?_) rfl (by kernel_rfl) (by kernel_rfl) (by kernel_rfl) (fun _ _ _ h => h) (Or.inl ⟨by rfl, ?_⟩) (by assumption) ?_
                rotate_left
                · (intro w hSw; (try dsimp only at hSw); go_simp); try with_reducible rfl
                try simp only [Act.put, List.setIfInBounds_toArray, List.set_cons_zero, List.set_cons_succ]
                refine wpAnyH_take (i := 3) (oi := { dst := some 80, op := Go.Op.indexAddr 51 (Go.Operand.tmp 78) (Go.Operand.tmp 79), type := 0, pos := "ref.go:146", after := #[{ on := 1, ground := Go.Ground.data }, { on := 2, ground := Go.Ground.data }], guard := none }) (v := ?_) rfl (by kernel_rfl) (by kernel_rfl) (by kernel_rfl) (fun _ _ _ h => h) (Or.inl ⟨by rfl, ?_⟩) (by assumption) ?_
                rotate_left
                · (intro w hSw; (try dsimp only at hSw); go_simp); try with_reducible rfl
                try simp only [Act.put, List.setIfInBounds_toArray, List.set_cons_zero, List.set_cons_succ]
                refine wpAnyH_take (i := 4) (oi := { dst := some 81, op := Go.Op.load 3 (Go.Operand.tmp 80), type := 3, pos := "ref.go:146", after := #[{ on := 3, ground := Go.Ground.data }], guard := none }) (v := ?_) rfl (by kernel_rfl) (by kernel_rfl) (by kernel_rfl) (fun _ _ _ h => h) (Or.inl ⟨by rfl, ?_⟩) (by assumption) ?_
                rotate_left
                · (intro w hSw; (try dsimp only at hSw); go_simp); try with_reducible rfl
                try simp only [Act.put, List.setIfInBounds_toArray, List.set_cons_zero, List.set_cons_succ]
                refine wpAnyH_take (i := 5) (oi := { dst := some 82, op := Go.Op.move (Go.Operand.tmp 12), type := 51, pos := "ref.go:146", after := #[], guard := none }) (v := ?_) rfl (by kernel_rfl) (by kernel_rfl) (by kernel_rfl) (fun _ _ _ h => h) (Or.inl ⟨by rfl, ?_⟩) (by assumption) ?_
                rotate_left
                · (intro w hSw; (try dsimp only at hSw); go_simp); try with_reducible rfl
                try simp only [Act.put, List.setIfInBounds_toArray, List.set_cons_zero, List.set_cons_succ]
                refine wpAnyH_take (i := 6) (oi := { dst := some 83, op := Go.Op.move (Go.Operand.tmp 14), type := 3, pos := "ref.go:146", after := #[], guard := none }) (v := ?_) rfl (by kernel_rfl) (by kernel_rfl) (by kernel_rfl) (fun _ _ _ h => h) (Or.inl ⟨by rfl, ?_⟩) (by assumption) ?_
                rotate_left
                · (intro w hSw; (try dsimp only at hSw); go_simp); try with_reducible rfl
                try simp only [Act.put, List.setIfInBounds_toArray, List.set_cons_zero, List.set_cons_succ]
                refine wpAnyH_take (i := 7) (oi := { dst := some 84, op := Go.Op.indexAddr 51 (Go.Operand.tmp 82) (Go.Operand.tmp 83), type := 0, pos := "ref.go:146", after := #[{ on := 5, ground := Go.Ground.data }, { on := 6, ground := Go.Ground.data }], guard := none }) (v := ?_) rfl (by kernel_rfl) (by kernel_rfl) (by kernel_rfl) (fun _ _ _ h => h) (Or.inl ⟨by rfl, ?_⟩) (by assumption) ?_
                rotate_left
                · (intro w hSw; (try dsimp only at hSw); go_simp); try with_reducible rfl
                try simp only [Act.put, List.setIfInBounds_toArray, List.set_cons_zero, List.set_cons_succ]
                refine wpAnyH_take (i := 8) (oi := { dst := some 85, op := Go.Op.load 3 (Go.Operand.tmp 84), type := 3, pos := "ref.go:146", after := #[{ on := 7, ground := Go.Ground.data }], guard := none }) (v := ?_) rfl (by kernel_rfl) (by kernel_rfl) (by kernel_rfl) (fun _ _ _ h => h) (Or.inl ⟨by rfl, ?_⟩) (by assumption) ?_
                rotate_left
                · (intro w hSw; (try dsimp only at hSw); go_simp); try with_reducible rfl
                try simp only [Act.put, List.setIfInBounds_toArray, List.set_cons_zero, List.set_cons_succ]
                refine wpAnyH_take (i := 9) (oi := { dst := some 86, op := Go.Op.move (Go.Operand.tmp 8), type := 51, pos := "ref.go:146", after := #[], guard := none }) (v := ?_) rfl (by kernel_rfl) (by kernel_rfl) (by kernel_rfl) (fun _ _ _ h => h) (Or.inl ⟨by rfl, ?_⟩) (by assumption) ?_
                rotate_left
                · (intro w hSw; (try dsimp only at hSw); go_simp); try with_reducible rfl
                try simp only [Act.put, List.setIfInBounds_toArray, List.set_cons_zero, List.set_cons_succ]
                refine wpAnyH_take (i := 10) (oi := { dst := some 87, op := Go.Op.move (Go.Operand.tmp 11), type := 3, pos := "ref.go:146", after := #[], guard := none }) (v := ?_) rfl (by kernel_rfl) (by kernel_rfl) (by kernel_rfl) (fun _ _ _ h => h) (Or.inl ⟨by rfl, ?_⟩) (by assumption) ?_
                rotate_left
                · (intro w hSw; (try dsimp only at hSw); go_simp); try with_reducible rfl
                try simp only [Act.put, List.setIfInBounds_toArray, List.set_cons_zero, List.set_cons_succ]
                refine wpAnyH_take (i := 11) (oi := { dst := some 88, op := Go.Op.binOp Go.BinOp.add 3 (Go.Operand.tmp 87) (Go.Operand.const (Go.Value.int Go.IntKind.i64 1)) 3, type := 3, pos := "ref.go:146", after := #[{ on := 10, ground := Go.Ground.data }], guard := none }) (v := ?_) rfl (by kernel_rfl) (by kernel_rfl) (by kernel_rfl) (fun _ _ _ h => h) (Or.inl ⟨by rfl, ?_⟩) (by assumption) ?_
                rotate_left
                · (intro w hSw; (try dsimp only at hSw); go_simp); try with_reducible rfl
                try simp only [Act.put, List.setIfInBounds_toArray, List.set_cons_zero, List.set_cons_succ]
                refine wpAnyH_take (i := 12) (oi := { dst := some 89, op := Go.Op.indexAddr 51 (Go.Operand.tmp 86) (Go.Operand.tmp 88), type := 0, pos := "ref.go:146", after := #[{ on := 9, ground := Go.Ground.data }, { on := 11, ground := Go.Ground.data }], guard := none }) (v := ?_) rfl (by kernel_rfl) (by kernel_rfl) (by kernel_rfl) (fun _ _ _ h => h) (Or.inl ⟨by rfl, ?_⟩) (by assumption) ?_
                rotate_left
                · (intro w hSw; (try dsimp only at hSw); go_simp); try with_reducible rfl
                try simp only [Act.put, List.setIfInBounds_toArray, List.set_cons_zero, List.set_cons_succ]
                refine wpAnyH_take (i := 13) (oi := { dst := some 90, op := Go.Op.load 3 (Go.Operand.tmp 89), type := 3, pos := "ref.go:146", after := #[{ on := 12, ground := Go.Ground.data }], guard := none }) (v := ?_) rfl (by kernel_rfl) (by kernel_rfl) (by kernel_rfl) (fun _ _ _ h => h) (Or.inl ⟨by rfl, ?_⟩) (by assumption) ?_
                rotate_left
                · (intro w hSw; (try dsimp only at hSw); go_simp); try with_reducible rfl
                try simp only [Act.put, List.setIfInBounds_toArray, List.set_cons_zero, List.set_cons_succ]
                refine wpAnyH_take (i := 14) (oi := { dst := some 91, op := Go.Op.move (Go.Operand.tmp 12), type := 51, pos := "ref.go:146", after := #[], guard := none }) (v := ?_) rfl (by kernel_rfl) (by kernel_rfl) (by kernel_rfl) (fun _ _ _ h => h) (Or.inl ⟨by rfl, ?_⟩) (by assumption) ?_
                rotate_left
                · (intro w hSw; (try dsimp only at hSw); go_simp); try with_reducible rfl
                try simp only [Act.put, List.setIfInBounds_toArray, List.set_cons_zero, List.set_cons_succ]
                refine wpAnyH_take (i := 15) (oi := { dst := some 92, op := Go.Op.move (Go.Operand.tmp 14), type := 3, pos := "ref.go:146", after := #[], guard := none }) (v := ?_) rfl (by kernel_rfl) (by kernel_rfl) (by kernel_rfl) (fun _ _ _ h => h) (Or.inl ⟨by rfl, ?_⟩) (by assumption) ?_
                rotate_left
                · (intro w hSw; (try dsimp only at hSw); go_simp); try with_reducible rfl
                try simp only [Act.put, List.setIfInBounds_toArray, List.set_cons_zero, List.set_cons_succ]
                refine wpAnyH_take (i := 16) (oi := { dst := some 93, op := Go.Op.binOp Go.BinOp.add 3 (Go.Operand.tmp 92) (Go.Operand.const (Go.Value.int Go.IntKind.i64 1)) 3, type := 3, pos := "ref.go:146", after := #[{ on := 15, ground := Go.Ground.data }], guard := none }) (v := ?_) rfl (by kernel_rfl) (by kernel_rfl) (by kernel_rfl) (fun _ _ _ h => h) (Or.inl ⟨by rfl, ?_⟩) (by assumption) ?_
                rotate_left
                · (intro w hSw; (try dsimp only at hSw); go_simp); try with_reducible rfl
                try simp only [Act.put, List.setIfInBounds_toArray, List.set_cons_zero, List.set_cons_succ]
                refine wpAnyH_take (i := 17) (oi := { dst := some 94, op := Go.Op.indexAddr 51 (Go.Operand.tmp 91) (Go.Operand.tmp 93), type := 0, pos := "ref.go:146", after := #[{ on := 14, ground := Go.Ground.data }, { on := 16, ground := Go.Ground.data }], guard := none }) (v := ?_) rfl (by kernel_rfl) (by kernel_rfl) (by kernel_rfl) (fun _ _ _ h => h) (Or.inl ⟨by rfl, ?_⟩) (by assumption) ?_
                rotate_left
                · (intro w hSw; (try dsimp only at hSw); go_simp); try with_reducible rfl
                try simp only [Act.put, List.setIfInBounds_toArray, List.set_cons_zero, List.set_cons_succ]
                refine wpAnyH_take (i := 18) (oi := { dst := some 95, op := Go.Op.load 3 (Go.Operand.tmp 94), type := 3, pos := "ref.go:146", after := #[{ on := 17, ground := Go.Ground.data }], guard := none }) (v := ?_) rfl (by kernel_rfl) (by kernel_rfl) (by kernel_rfl) (fun _ _ _ h => h) (Or.inl ⟨by rfl, ?_⟩) (by assumption) ?_
                rotate_left
                · (intro w hSw; (try dsimp only at hSw); go_simp); try with_reducible rfl
                try simp only [Act.put, List.setIfInBounds_toArray, List.set_cons_zero, List.set_cons_succ]
                refine wpAnyH_take (i := 19) (oi := { dst := some 96, op := Go.Op.build 33 #[(0, Go.Operand.tmp 81), (1, Go.Operand.tmp 85), (2, Go.Operand.tmp 90), (3, Go.Operand.tmp 95)], type := 33, pos := "ref.go:146", after := #[{ on := 4, ground := Go.Ground.data }, { on := 8, ground := Go.Ground.data }, { on := 13, ground := Go.Ground.data }, { on := 18, ground := Go.Ground.data }], guard := none }) (v := ?_) rfl (by kernel_rfl) (by kernel_rfl) (by kernel_rfl) (fun _ _ _ h => h) (Or.inl ⟨by rfl, ?_⟩) (by assumption) ?_
                rotate_left
                · (intro w hSw; (try dsimp only at hSw); go_simp); try with_reducible rfl
                try simp only [Act.put, List.setIfInBounds_toArray, List.set_cons_zero, List.set_cons_succ]
                refine wpAnyH_ready (rs := [20]) (by kernel_rfl) (by simp) ?_
                refine AllReadyH.cons (o := { dst := some 97, op := Go.Op.buildSlice 37 1 #[(0, Go.Operand.tmp 96)], type := 37, pos := "ref.go:146", after := #[{ on := 19, ground := Go.Ground.data }], guard := none }) rfl (fun Kx hKx => ?_) AllReadyH.nil
                go_simp
                refine hKx.out _ _ (E4.go ‹_› ((Below.refl _ _).alloc (Nat.le_refl _) _)) (fun hHeld2 => ?_)
                clear hKx Kx hHeld
                have hHeld := hHeld2; clear hHeld2
                try simp only [Act.put, List.setIfInBounds_toArray, List.set_cons_zero, List.set_cons_succ]
                refine wpAnyH_ready (rs := [21]) (by kernel_rfl) (by simp) ?_
                refine AllReadyH.cons (o := { dst := some 98, op := Go.Op.call { callee := Go.Callee.builtin Go.Builtin.append, args := #[Go.Operand.tmp 77, Go.Operand.tmp 97], argTypes := #[37, 37] }, type := 37, pos := "ref.go:146", after := #[{ on := 0, ground := Go.Ground.data }, { on := 20, ground := Go.Ground.data }], guard := none }) rfl (fun Kx hKx => ?_) AllReadyH.nil
                try simp only [Act.put, List.setIfInBounds_toArray, List.set_cons_zero, List.set_cons_succ]
                refine wp_append_own _ (Operand.tmp 77) (Operand.tmp 97) 37 rfl w.heap.size 33 i0 (.agg #[.int .i64 0, .int .i64 0, .int .i64 0, .int .i64 0]) 4 32 Tryz.underlying37 hi9 hz0 hz1 hz2 rfl (by decide) (.slice Ak Fk.length ck) Fk.length (rcells Fk) rfl HOWN.out ⟨wr.drew.heap.size, 0, none⟩ 1 1 [.int .i64 xa, .int .i64 ya, .int .i64 xb, .int .i64 yb] rfl rfl ?d1 ?d2 ?d3 ?d4 ?d5 ?_
                case d1 => exact World.news_of_block (cs := #[.int .i64 xa, .int .i64 ya, .int .i64 xb, .int .i64 yb]) (t := 33) (fr := (0, 0)) (heap_alloc_new wr.drew _)
                case d2 => intro u hu; simp only [List.mem_cons, List.not_mem_nil, or_false] at hu; rcases hu with rfl | rfl | rfl | rfl <;> rfl
                case d3 => unfold maxLen; omega
                case d4 => omega
                case d5 => exact HSZ.out
                intro v6 w6 hown6 hgr6 _
                have HW6 := Lib.hid (HGROW.out v6 w6 hown6 hgr6)
                refine hKx.out _ _ (E4.grow ‹_› hgr6 HAP.out) (fun hHeld2 => ?_)
                clear hKx Kx hHeld hown6 hgr6
                have hHeld := hHeld2; clear hHeld2
                try simp only [Act.put, List.setIfInBounds_toArray, List.set_cons_zero, List.set_cons_succ]
                refine wpAnyH_take (i := 22) (oi := { dst := some 7, op := Go.Op.assign (Go.Operand.tmp 98), type := 37, pos := "ref.go:146", after := #[{ on := 21, ground := Go.Ground.data }, { on := 21, ground := Go.Ground.chain }, { on := 0, ground := Go.Ground.phase }, { on := 1, ground := Go.Ground.phase }, { on := 2, ground := Go.Ground.phase }, { on := 3, ground := Go.Ground.phase }, { on := 4, ground := Go.Ground.phase }, { on := 5, ground := Go.Ground.phase }, { on := 6, ground := Go.Ground.phase }, { on := 7, ground := Go.Ground.phase }, { on := 8, ground := Go.Ground.phase }, { on := 9, ground := Go.Ground.phase }, { on := 10, ground := Go.Ground.phase }, { on := 11, ground := Go.Ground.phase }, { on := 12, ground := Go.Ground.phase }, { on := 13, ground := Go.Ground.phase }, { on := 14, ground := Go.Ground.phase }, { on := 15, ground := Go.Ground.phase }, { on := 16, ground := Go.Ground.phase }, { on := 17, ground := Go.Ground.phase }, { on := 18, ground := Go.Ground.phase }, { on := 19, ground := Go.Ground.phase }, { on := 20, ground := Go.Ground.phase }, { on := 21, ground := Go.Ground.phase }], guard := none }) (v := ?_) rfl (by kernel_rfl) (by kernel_rfl) (by kernel_rfl) (fun _ _ _ h => h) (Or.inl ⟨by rfl, ?_⟩) (by assumption) ?_
                rotate_left
                · (intro w hSw; (try dsimp only at hSw); go_simp); try with_reducible rfl
                try simp only [Act.put, List.setIfInBounds_toArray, List.set_cons_zero, List.set_cons_succ]
                refine wpAnyH_done (by kernel_rfl) ?_ _
                clear hHeld
                go_wp2_with fail
                go_roundw
                case rel => exact ⟨p + 2, v6, by omega, by go_num, rfl, HP3, HW6⟩
                case measure => simp [intOf]; omega
              · obtain rfl : p = C.length := by have := HP2.out; have := HCE.out; omega
                rw [List.take_length, ← HF'.out] at HK
                have hl2 : Hid ((flatS S').length ≤ (k + 1) * 4000 ∧ C.length ≤ 4000) := Lib.hid (by
                  rw [HF'.out, List.length_append]; have := rectsOf_len xa xb C; have := HL.out.1; omega)
                have p2 : ¬ (C.length : Int) + 1 < (C.length : Int) := by omega
                clear HF' HCE HP2 HL
                go_wp2_with fail
                go_roundw
                case rel => exact ⟨k + 1, S', C, F.length, _, _, by go_num, rfl, rfl, rfl, by omega, HRN, HK, hl2⟩
                case measure => simp [intOf]; omega
    · have HS := Lib.hid (HR.out.done (by omega))
      have j2 : ¬ (k : Int) + 1 < (E.length : Int) := by omega
      have HFIN : Hid (RcsIs (formO op a b) w (.returned (.slice Ao F.length co)) wr) := Lib.hid ⟨_, rfl, by rw [HFO.out, ← HS.out, ← HFS.out]; exact HW.out.o1, HW.out.bel⟩
      clear HR HW HS HFO HFS HL
      go_wp2_with fail
      go_ret
      exact HFIN.out
end Go.Proofs.YtdnoadngfkiabaaGreat
