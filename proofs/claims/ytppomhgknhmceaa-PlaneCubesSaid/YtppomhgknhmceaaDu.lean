/-
  PlaneCubes: the walk.
-/
import Derived.Test.YtppomhgknhmceaaDr
import Derived.Test.YtppomhgknhmceaaCa
set_option linter.unusedVariables false
set_option maxRecDepth 100000
namespace Go.Proofs.Ytppomhgknhmceaa
open Go.RowKit

/-! ### the solid of one cube -/
def boxC (x y z : Int) : Bx := ⟨⟨x, y, x + 1, y + 1⟩, z, z + 1⟩
structure CubeS (x y z : Int) (S : List Sl) : Prop where
  is : ofS [boxC x y z] = (S, 0)
  sol : SolP S
  has : ∀ u v q, HasL (secS S q) u v ↔ u = x ∧ v = y ∧ q = z
theorem cube_sol {x y z : Int} (hc : GC x y) (hz : 0 ≤ z ∧ z < 4096) : ∃ S, CubeS x y z S := by
  have hb : ∀ b ∈ [boxC x y z], BOk b := fun b hb => by
    rw [List.mem_singleton] at hb; subst hb
    unfold GC at hc
    unfold BOk ROk Span HOk boxC
    simp only []
    omega
  refine ⟨solB [boxC x y z], ofS_small hb (by simp), solB_small hb (by simp), fun u v q => ?_⟩
  rw [(cs_b hb).cubes]
  unfold HasB
  constructor
  · rintro ⟨b, hm, ⟨_, h1, h2, h3, h4⟩, h5, h6⟩
    rw [List.mem_singleton] at hm; subst hm
    unfold boxC at h1 h2 h3 h4 h5 h6
    simp only [] at h1 h2 h3 h4 h5 h6
    omega
  · rintro ⟨rfl, rfl, rfl⟩
    have hk := hb _ (List.mem_singleton.2 rfl)
    refine ⟨_, List.mem_singleton.2 rfl, ⟨hk.1, ?_⟩, ?_⟩ <;> (unfold boxC; simp only []; omega)
theorem cube_all {r : Rc} {l : List Pl} (ha : ArgOk r l) {x y z : Int} (hz : 0 ≤ z ∧ z < 4096) {S : List Sl} (h : CubeS x y z S) : AllB r l S ↔ AlwL r l x y z := by
  rw [← top_iff ha.2 hz.1 hz.2]
  constructor
  · intro k; exact k x y z ((h.has _ _ _).2 ⟨rfl, rfl, rfl⟩)
  · intro k u v q hh
    obtain ⟨rfl, rfl, rfl⟩ := (h.has _ _ _).1 hh
    exact k
instance decAlw10 (r : Rc) (l : List Pl) (x y z : Int) : Decidable (AlwL r l x y z) := by unfold AlwL; infer_instance
theorem cube_first {r : Rc} {l : List Pl} (ha : ArgOk r l) {x y z : Int} (hz : 0 ≤ z ∧ z < 4096) {S : List Sl} (h : CubeS x y z S) : FstP r l S (if AlwL r l x y z then (z3, false) else (⟨x, y, z⟩, true)) := by
  by_cases c : AlwL r l x y z
  · rw [if_pos c]; exact Or.inr ⟨rfl, rfl, (cube_all ha hz h).2 c⟩
  · rw [if_neg c]
    refine Or.inl ⟨rfl, (h.has _ _ _).2 ⟨rfl, rfl, rfl⟩, ?_, fun u v q hh hb => ?_⟩
    · show topH r l x y ≤ z
      have := (top_iff (r := r) ha.2 (x := x) (y := y) hz.1 hz.2)
      by_cases k : z < topH r l x y
      · exact absurd (this.1 k) c
      · omega
    · obtain ⟨rfl, rfl, rfl⟩ := (h.has _ _ _).1 hh
      unfold Bef LexC at hb
      simp only [] at hb
      omega
theorem alw_next (r : Rc) (l : List Pl) (x y z : Int) (k : Nat) (h : k < l.length) : decide (AlwL r (l.take (k + 1)) x y z) = (decide (AlwL r (l.take k) x y z) && decide ((z + 1 - l[k].b) * l[k].d ≤ l[k].n * distP r l[k].s x y)) := by
  rw [Bool.eq_iff_iff, Bool.and_eq_true, decide_eq_true_iff, decide_eq_true_iff, decide_eq_true_iff, List.take_succ_eq_append_getElem h]
  unfold AlwL
  constructor
  · intro k1; exact ⟨fun p hp => k1 p (List.mem_append_left _ hp), k1 _ (List.mem_append_right _ (List.mem_singleton.2 rfl))⟩
  · rintro ⟨k1, k2⟩ p hp
    rcases List.mem_append.1 hp with hp | hp
    · exact k1 p hp
    · rw [List.mem_singleton] at hp; subst hp; exact k2
/-- four numbers in a block. -/
def I4 (w : World) (g : Nat) (a b c d : Int) : Prop := w.heap[g]? = some (.cells #[.int .i64 a, .int .i64 b, .int .i64 c, .int .i64 d] 3 (0, 0))
theorem I4.lt {w : World} {g : Nat} {a b c d : Int} (h : I4 w g a b c d) : g < w.heap.size := (Array.getElem?_eq_some_iff.1 h).1
theorem I4.dist {w : World} {g : Nat} {r : Rc} {x y : Int} (h : I4 w g (x - r.X0) (r.X1 - 1 - x) (y - r.Y0) (r.Y1 - 1 - y)) {s : Int} (h0 : 0 ≤ s) (h1 : s < 4) : w.cell? ⟨g, s.toNat, none⟩ = some (.int .i64 (distP r s x y)) := by
  have k : s = 0 ∨ s = 1 ∨ s = 2 ∨ s = 3 := by omega
  rcases k with rfl | rfl | rfl | rfl <;> (rw [Lib.cell_of_heap h]; rfl)
theorem I4.new (w : World) (a b c d : Int) (k : Nat) (h : k = w.heap.size) : I4 (w.alloc (.cells #[.int .i64 a, .int .i64 b, .int .i64 c, .int .i64 d] 3)) k a b c d := by subst h; exact heap_alloc_new w _
/-- what Distance's region reads. -/
def Zd (gb ba o g i : Nat) (r : Rc) (s t : Int) (W w' : World) : Prop := w'.cell? ⟨gb, 0, none⟩ = some (.int .i64 r.X0) ∧ w'.cell? ⟨gb, 1, none⟩ = some (.int .i64 r.Y0) ∧ w'.cell? ⟨gb, 2, none⟩ = some (.int .i64 r.X1) ∧ w'.cell? ⟨gb, 3, none⟩ = some (.int .i64 r.Y1) ∧ w'.cell? ⟨ba, o, none⟩ = some (.int .i64 s) ∧ w'.cell? ⟨g, i, none⟩ = some (.int .i64 t) ∧ gb < w'.heap.size ∧ ba < w'.heap.size ∧ g < w'.heap.size ∧ Hid (Below W.heap.size W w')
theorem Zd.go {gb ba o g i : Nat} {r : Rc} {s t : Int} {W w w' : World} (h : Zd gb ba o g i r s t W w) (hb : Below w.heap.size w w') : Zd gb ba o g i r s t W w' := by
  obtain ⟨c0, c1, c2, c3, c4, c5, l1, l2, l3, h5⟩ := h
  have wc := fun o => hb.cell (p := ⟨gb, o, none⟩) l1
  exact ⟨(wc _).trans c0, (wc _).trans c1, (wc _).trans c2, (wc _).trans c3, (hb.cell (p := ⟨ba, o, none⟩) l2).trans c4, (hb.cell (p := ⟨g, i, none⟩) l3).trans c5, Nat.lt_of_lt_of_le l1 hb.size, Nat.lt_of_lt_of_le l2 hb.size, Nat.lt_of_lt_of_le l3 hb.size, Lib.hid (h5.out.trans (hb.mono h5.out.size))⟩
theorem Zd.drewN {gb ba o g i : Nat} {r : Rc} {s t : Int} {W w : World} (h : Zd gb ba o g i r s t W w) (n : Nat) : Zd gb ba o g i r s t W (w.drewN n) := h.go (below_drewN (Below.refl _ _) n)
def OfE (S : List Sl) (n : Nat) (er : Int) (w : World) (e : Ending) (w' : World) : Prop := ∃ A c, e = .returned (.tuple #[.slice A n c, .int .i64 er]) ∧ SIn w' A c S ∧ Below w.heap.size w w'
def FsE (p : P3) (b : Bool) (w : World) (e : Ending) (w' : World) : Prop := e = .returned (.tuple #[.agg #[.int .i64 p.x, .int .i64 p.y, .int .i64 p.z], .bool b]) ∧ Below w.heap.size w w'
def FsZ (w : World) (e : Ending) (w' : World) : Prop := e = .returned (.tuple #[.agg #[.int .i64 0, .int .i64 0, .int .i64 0], .bool false]) ∧ Below w.heap.size w w'
theorem FC.no {r : Rc} {l : List Pl} {S : List Sl} (hn : ¬ ArgOk r l) {w w' : World} {e : Ending} (h : FIs r l S w e w') : FsZ w e w' := by
  obtain ⟨x, rfl, hx, hb⟩ := h
  obtain rfl := hx.2 (fun k => hn k.1)
  exact ⟨rfl, hb⟩
theorem FC.yes {r : Rc} {l : List Pl} {S : List Sl} (ha : ArgOk r l ∧ SolP S) {y : P3 × Bool} (hy : FstP r l S y) {w w' : World} {e : Ending} (h : FIs r l S w e w') : FsE y.1 y.2 w e w' := by
  obtain ⟨x, rfl, hx, hb⟩ := h
  obtain rfl := (hx.1 ha).eq hy
  exact ⟨rfl, hb⟩
theorem AlIs.is {r : Rc} {l : List Pl} {S : List Sl} {b : Bool} (hb : b = true ↔ (ArgOk r l ∧ SolP S) ∧ AllB r l S) {w w' : World} {e : Ending} (h : AlIs r l S w e w') : BlIs b w e w' := by
  obtain ⟨c, hc, k⟩ := h
  have : c = b := by rw [Bool.eq_iff_iff, hc, hb]
  subst this
  exact k
set_option maxHeartbeats 40000000 in
theorem cubes_head (r : Rc) (A : Option Addr) (cap : Nat) (l : List Pl) (x y z : Int) (w : World) (hn : 12 < (l.length : Int) ∨ x < 0 ∨ 1048576 ≤ x ∨ y < 0 ∨ 1048576 ≤ y ∨ z < 0 ∨ 4096 ≤ z) :
    Calls Try.prog 3 #[.agg #[.int .i64 r.X0, .int .i64 r.Y0, .int .i64 r.X1, .int .i64 r.Y1], .slice A l.length cap, .int .i64 x, .int .i64 y, .int .i64 z] w (BlIs true w) := by
  have HB : Hid (Below w.heap.size w (w.alloc (.cells #[.int .i64 r.X0, .int .i64 r.Y0, .int .i64 r.X1, .int .i64 r.Y1] 23))) := Lib.hid ((Below.refl _ _).alloc (Nat.le_refl _) _)
  have HSM := Lib.hid (fun w' => msmall_any w')
  have HN := Lib.hid hn
  clear hn
  go_enter Try.func3, Try.ntmps3
  go_wp2_with fail
  generalize World.alloc w _ = w0 at *
  refine (HSM.out _).mono ?_
  rintro e w1 ⟨rfl, hb⟩
  have HB1 := Lib.hid (HB.out.trans (hb.mono HB.out.size)); clear hb HB
  by_cases n12 : 12 < (l.length : Int)
  · go_wp2_with fail
    go_ret
    exact ⟨rfl, HB1.out⟩
  · skip
    by_cases d0 : x < 0
    · go_wp2_with fail
      go_ret
      exact ⟨rfl, HB1.out⟩
    · skip
      by_cases d1 : 1048576 ≤ x
      · go_wp2_with fail
        go_ret
        exact ⟨rfl, HB1.out⟩
      · skip
        by_cases d2 : y < 0
        · go_wp2_with fail
          go_ret
          exact ⟨rfl, HB1.out⟩
        · skip
          by_cases d3 : 1048576 ≤ y
          · go_wp2_with fail
            go_ret
            exact ⟨rfl, HB1.out⟩
          · skip
            by_cases d4 : z < 0
            · go_wp2_with fail
              go_ret
              exact ⟨rfl, HB1.out⟩
            · skip
              by_cases d5 : 4096 ≤ z
              · go_wp2_with fail
                go_ret
                exact ⟨rfl, HB1.out⟩
              · exact absurd HN.out (by omega)
set_option maxHeartbeats 40000000 in
theorem cubes_bad (r : Rc) (A : Option Addr) (cap : Nat) (l : List Pl) (x y z : Int) (w : World) (hl : PlIn w A cap l) (hn : l.length ≤ 12) (hg : GC x y) (hz : 0 ≤ z ∧ z < 4096) (hc : ¬ ArgOk r l) :
    Calls Try.prog 3 #[.agg #[.int .i64 r.X0, .int .i64 r.Y0, .int .i64 r.X1, .int .i64 r.Y1], .slice A l.length cap, .int .i64 x, .int .i64 y, .int .i64 z] w (BlIs true w) := by
  have n12 : ¬ (12 : Int) < (l.length : Int) := by omega
  obtain ⟨⟨d0, d1⟩, d2, d3⟩ := hg
  obtain ⟨d4, d5⟩ := hz
  have e0 : ¬ x < 0 := by omega
  have e1 : ¬ 1048576 ≤ x := by omega
  have e2 : ¬ y < 0 := by omega
  have e3 : ¬ 1048576 ≤ y := by omega
  have e4 : ¬ z < 0 := by omega
  have e5 : ¬ 4096 ≤ z := by omega
  have q0 : IntKind.i64.wrap (x + 1) = x + 1 := IntWalk.i64_in _ (by omega)
  have q1 : IntKind.i64.wrap (y + 1) = y + 1 := IntWalk.i64_in _ (by omega)
  have q2 : IntKind.i64.wrap (z + 1) = z + 1 := IntWalk.i64_in _ (by omega)
  obtain ⟨S, hS⟩ := cube_sol (x := x) (y := y) (z := z) ⟨⟨d0, d1⟩, d2, d3⟩ ⟨d4, d5⟩
  have K := Lib.hid (LK.start (r := r) hl)
  have HSM := Lib.hid (fun w' => msmall_any w')
  have HOF := Lib.hid (fun (w' : World) (k : Nat) (hk : k = w'.heap.size) => show Calls Try.prog 6 #[.slice (some ⟨k, 0, none⟩) 1 1] (w'.alloc (.cells #[.int .i64 x, .int .i64 y, .int .i64 (x + 1), .int .i64 (y + 1), .int .i64 z, .int .i64 (z + 1)] 31)) (OfE S S.length 0 (w'.alloc (.cells #[.int .i64 x, .int .i64 y, .int .i64 (x + 1), .int .i64 (y + 1), .int .i64 z, .int .i64 (z + 1)] 31))) from by
    have h1 := bof_any (some ⟨k, 0, none⟩) 1 [boxC x y z] _ (lit_box10 w' (boxC x y z) k hk) (by simp)
    rw [hS.is] at h1; exact h1)
  have HAL := Lib.hid (fun w' (h : Below w.heap.size w w') A2 c2 (hs : SIn w' A2 c2 S) => (kAllows_any r A cap l A2 c2 S w' (hl.below h) hs).mono fun e w2 k => AlIs.is (b := false) ⟨fun h => (by cases h), fun h => absurd h.1.1 hc⟩ k)
  have HFI := Lib.hid (fun w' (h : Below w.heap.size w w') A2 c2 (hs : SIn w' A2 c2 S) => (kFirst_any r A cap l A2 c2 S w' (hl.below h) hs).mono fun e w2 k => FC.no hc k)
  have HTP := Lib.hid (fun w' (h : Below w.heap.size w w') => show Calls Try.prog 9 #[.agg #[.int .i64 r.X0, .int .i64 r.Y0, .int .i64 r.X1, .int .i64 r.Y1], .slice A l.length cap, .int .i64 x, .int .i64 y] w' (InIs (-1) w') from by
    have h1 := kTop_any r A cap l x y w' (hl.below h)
    rw [show TopIs r l x y = -1 from if_neg (fun h => hc h.1)] at h1; exact h1)
  have HV := Lib.hid (fun w' (h : Below w.heap.size w w') => show Calls Try.prog 10 #[.agg #[.int .i64 r.X0, .int .i64 r.Y0, .int .i64 r.X1, .int .i64 r.Y1], .slice A l.length cap] w' (BlIs false w') from by
    have h1 := mvalid_any r A cap l w' (hl.below h)
    rw [decide_eq_false hc] at h1; exact h1)
  obtain ⟨nS, hnS⟩ : ∃ nS, S.length = nS := ⟨_, rfl⟩
  rw [hnS] at HOF
  have HNS := Lib.hid hnS
  clear hnS
  replace HAL := Lib.hid (show ∀ w', Below w.heap.size w w' → ∀ A2 c2, SIn w' A2 c2 S → Calls Try.prog 7 #[.agg #[.int .i64 r.X0, .int .i64 r.Y0, .int .i64 r.X1, .int .i64 r.Y1], .slice A l.length cap, .slice A2 nS c2] w' _ from by rw [← HNS.out]; exact HAL.out)
  replace HFI := Lib.hid (show ∀ w', Below w.heap.size w w' → ∀ A2 c2, SIn w' A2 c2 S → Calls Try.prog 8 #[.agg #[.int .i64 r.X0, .int .i64 r.Y0, .int .i64 r.X1, .int .i64 r.Y1], .slice A l.length cap, .slice A2 nS c2] w' _ from by rw [← HNS.out]; exact HFI.out)
  clear hl hS hc
  go_enter Try.func3, Try.ntmps3
  go_wp2_with fail
  generalize World.alloc w _ = w0 at *
  refine (HSM.out _).mono ?_
  rintro e w1 ⟨rfl, hb⟩
  replace K := Lib.hid (K.out.go hb)
  clear hb
  go_wp2_with fail
  have ba1 := (Below.refl w1.heap.size w1).alloc (Nat.le_refl _) (.cells #[.int .i64 x, .int .i64 y, .int .i64 (x + 1), .int .i64 (y + 1), .int .i64 z, .int .i64 (z + 1)] 31)
  replace K := Lib.hid (K.out.go ba1)
  clear ba1
  refine (HOF.out _ _ rfl).mono ?_
  rintro e w2 ⟨A3, c3, rfl, hs3, hb⟩
  replace K := Lib.hid (K.out.go hb)
  have HS3 := Lib.hid hs3
  clear hs3
  clear hb
  have x0 := K.out.r.cell0; have x1 := K.out.r.cell1; have x2 := K.out.r.cell2; have x3 := K.out.r.cell3; have xl := K.out.r.lt
  go_wp2_with fail
  refine (HAL.out _ K.out.b _ _ HS3.out).mono ?_
  rintro e w3 ⟨rfl, hb⟩
  replace K := Lib.hid (K.out.go hb)
  replace HS3 := Lib.hid (HS3.out.below hb)
  clear x0 x1 x2 x3 xl
  clear hb
  have x0 := K.out.r.cell0; have x1 := K.out.r.cell1; have x2 := K.out.r.cell2; have x3 := K.out.r.cell3; have xl := K.out.r.lt
  go_wp2_with fail
  refine (HFI.out _ K.out.b _ _ HS3.out).mono ?_
  rintro e w4 ⟨rfl, hb⟩
  replace K := Lib.hid (K.out.go hb)
  replace HS3 := Lib.hid (HS3.out.below hb)
  clear x0 x1 x2 x3 xl
  clear hb
  have ba1 := (Below.refl w4.heap.size w4).alloc (Nat.le_refl _) (.cells #[.int .i64 0, .int .i64 0, .int .i64 0] 35)
  replace K := Lib.hid (K.out.go ba1)
  replace HS3 := Lib.hid (HS3.out.below ba1)
  have HP : Hid (P3At (w4.alloc (.cells #[.int .i64 0, .int .i64 0, .int .i64 0] 35)) w4.heap.size z3) := Lib.hid (P3At.new w4 z3 _ rfl)
  clear ba1
  have x0 := K.out.r.cell0; have x1 := K.out.r.cell1; have x2 := K.out.r.cell2; have x3 := K.out.r.cell3; have xl := K.out.r.lt
  go_wp2_with fail
  generalize World.alloc w4 _ = wp at *
  generalize w4.heap.size = g5 at *
  refine (HTP.out _ K.out.b).mono ?_
  rintro e w5 ⟨rfl, hb⟩
  replace K := Lib.hid (K.out.go hb)
  replace HS3 := Lib.hid (HS3.out.below hb)
  replace HP := Lib.hid (HP.out.below hb)
  clear x0 x1 x2 x3 xl
  clear hb
  have x0 := K.out.r.cell0; have x1 := K.out.r.cell1; have x2 := K.out.r.cell2; have x3 := K.out.r.cell3; have xl := K.out.r.lt
  go_wp2_with fail
  refine (HV.out _ K.out.b).mono ?_
  rintro e w6 ⟨rfl, hb⟩
  replace K := Lib.hid (K.out.go hb)
  replace HS3 := Lib.hid (HS3.out.below hb)
  replace HP := Lib.hid (HP.out.below hb)
  clear x0 x1 x2 x3 xl
  clear hb
  go_wp2_with fail
  go_ret
  exact ⟨rfl, K.out.b⟩
set_option maxHeartbeats 40000000 in
theorem cubes_yes (r : Rc) (A : Option Addr) (cap : Nat) (l : List Pl) (x y z : Int) (w : World) (hl : PlIn w A cap l) (hn : l.length ≤ 12) (hg : GC x y) (hz : 0 ≤ z ∧ z < 4096) (hc : ArgOk r l) (ha : AlwL r l x y z) :
    Calls Try.prog 3 #[.agg #[.int .i64 r.X0, .int .i64 r.Y0, .int .i64 r.X1, .int .i64 r.Y1], .slice A l.length cap, .int .i64 x, .int .i64 y, .int .i64 z] w (BlIs true w) := by
  have n12 : ¬ (12 : Int) < (l.length : Int) := by omega
  obtain ⟨⟨d0, d1⟩, d2, d3⟩ := hg
  obtain ⟨d4, d5⟩ := hz
  have e0 : ¬ x < 0 := by omega
  have e1 : ¬ 1048576 ≤ x := by omega
  have e2 : ¬ y < 0 := by omega
  have e3 : ¬ 1048576 ≤ y := by omega
  have e4 : ¬ z < 0 := by omega
  have e5 : ¬ 4096 ≤ z := by omega
  have q0 : IntKind.i64.wrap (x + 1) = x + 1 := IntWalk.i64_in _ (by omega)
  have q1 : IntKind.i64.wrap (y + 1) = y + 1 := IntWalk.i64_in _ (by omega)
  have q2 : IntKind.i64.wrap (z + 1) = z + 1 := IntWalk.i64_in _ (by omega)
  obtain ⟨S, hS⟩ := cube_sol (x := x) (y := y) (z := z) ⟨⟨d0, d1⟩, d2, d3⟩ ⟨d4, d5⟩
  have K := Lib.hid (LK.start (r := r) hl)
  have HSM := Lib.hid (fun w' => msmall_any w')
  have HOF := Lib.hid (fun (w' : World) (k : Nat) (hk : k = w'.heap.size) => show Calls Try.prog 6 #[.slice (some ⟨k, 0, none⟩) 1 1] (w'.alloc (.cells #[.int .i64 x, .int .i64 y, .int .i64 (x + 1), .int .i64 (y + 1), .int .i64 z, .int .i64 (z + 1)] 31)) (OfE S S.length 0 (w'.alloc (.cells #[.int .i64 x, .int .i64 y, .int .i64 (x + 1), .int .i64 (y + 1), .int .i64 z, .int .i64 (z + 1)] 31))) from by
    have h1 := bof_any (some ⟨k, 0, none⟩) 1 [boxC x y z] _ (lit_box10 w' (boxC x y z) k hk) (by simp)
    rw [hS.is] at h1; exact h1)
  have HAL := Lib.hid (fun w' (h : Below w.heap.size w w') A2 c2 (hs : SIn w' A2 c2 S) => (kAllows_any r A cap l A2 c2 S w' (hl.below h) hs).mono fun e w2 k => AlIs.is (b := true) ⟨fun _ => ⟨⟨hc, hS.sol⟩, (cube_all hc ⟨d4, d5⟩ hS).2 ha⟩, fun _ => rfl⟩ k)
  have hfc := cube_first hc ⟨d4, d5⟩ hS
  rw [if_pos ha] at hfc
  have HFI := Lib.hid (fun w' (h : Below w.heap.size w w') A2 c2 (hs : SIn w' A2 c2 S) => (kFirst_any r A cap l A2 c2 S w' (hl.below h) hs).mono fun e w2 k => show FsZ w' e w2 from FC.yes ⟨hc, hS.sol⟩ hfc k)
  have hti := top_iff (r := r) hc.2 (x := x) (y := y) d4 d5
  have htn := top_in r l x y
  have HTP := Lib.hid (fun w' (h : Below w.heap.size w w') => show Calls Try.prog 9 #[.agg #[.int .i64 r.X0, .int .i64 r.Y0, .int .i64 r.X1, .int .i64 r.Y1], .slice A l.length cap, .int .i64 x, .int .i64 y] w' (InIs (topH r l x y) w') from by
    have h1 := kTop_any r A cap l x y w' (hl.below h)
    rw [show TopIs r l x y = topH r l x y from if_pos ⟨hc, ⟨d0, d1⟩, d2, d3⟩] at h1; exact h1)
  have HV := Lib.hid (fun w' (h : Below w.heap.size w w') => show Calls Try.prog 10 #[.agg #[.int .i64 r.X0, .int .i64 r.Y0, .int .i64 r.X1, .int .i64 r.Y1], .slice A l.length cap] w' (BlIs true w') from by
    have h1 := mvalid_any r A cap l w' (hl.below h)
    rw [decide_eq_true hc] at h1; exact h1)
  have hzt :  z < topH r l x y := hti.2 ha
  have t0 : ¬ topH r l x y < 0 := by omega
  have t1 : ¬ 4096 < topH r l x y := by omega
  have HALW : Hid (decide (AlwL r l x y z) = true) := Lib.hid (decide_eq_true ha)
  generalize topH r l x y = tp at *
  have HA := Lib.hid hc
  clear hti htn hfc ha
  obtain ⟨nS, hnS⟩ : ∃ nS, S.length = nS := ⟨_, rfl⟩
  rw [hnS] at HOF
  have HNS := Lib.hid hnS
  clear hnS
  replace HAL := Lib.hid (show ∀ w', Below w.heap.size w w' → ∀ A2 c2, SIn w' A2 c2 S → Calls Try.prog 7 #[.agg #[.int .i64 r.X0, .int .i64 r.Y0, .int .i64 r.X1, .int .i64 r.Y1], .slice A l.length cap, .slice A2 nS c2] w' _ from by rw [← HNS.out]; exact HAL.out)
  replace HFI := Lib.hid (show ∀ w', Below w.heap.size w w' → ∀ A2 c2, SIn w' A2 c2 S → Calls Try.prog 8 #[.agg #[.int .i64 r.X0, .int .i64 r.Y0, .int .i64 r.X1, .int .i64 r.Y1], .slice A l.length cap, .slice A2 nS c2] w' _ from by rw [← HNS.out]; exact HFI.out)
  clear hl hS
  go_enter Try.func3, Try.ntmps3
  go_wp2_with fail
  generalize World.alloc w _ = w0 at *
  refine (HSM.out _).mono ?_
  rintro e w1 ⟨rfl, hb⟩
  replace K := Lib.hid (K.out.go hb)
  clear hb
  go_wp2_with fail
  have ba1 := (Below.refl w1.heap.size w1).alloc (Nat.le_refl _) (.cells #[.int .i64 x, .int .i64 y, .int .i64 (x + 1), .int .i64 (y + 1), .int .i64 z, .int .i64 (z + 1)] 31)
  replace K := Lib.hid (K.out.go ba1)
  clear ba1
  refine (HOF.out _ _ rfl).mono ?_
  rintro e w2 ⟨A3, c3, rfl, hs3, hb⟩
  replace K := Lib.hid (K.out.go hb)
  have HS3 := Lib.hid hs3
  clear hs3
  clear hb
  have x0 := K.out.r.cell0; have x1 := K.out.r.cell1; have x2 := K.out.r.cell2; have x3 := K.out.r.cell3; have xl := K.out.r.lt
  go_wp2_with fail
  refine (HAL.out _ K.out.b _ _ HS3.out).mono ?_
  rintro e w3 ⟨rfl, hb⟩
  replace K := Lib.hid (K.out.go hb)
  replace HS3 := Lib.hid (HS3.out.below hb)
  clear x0 x1 x2 x3 xl
  clear hb
  have x0 := K.out.r.cell0; have x1 := K.out.r.cell1; have x2 := K.out.r.cell2; have x3 := K.out.r.cell3; have xl := K.out.r.lt
  go_wp2_with fail
  refine (HFI.out _ K.out.b _ _ HS3.out).mono ?_
  rintro e w4 ⟨rfl, hb⟩
  replace K := Lib.hid (K.out.go hb)
  replace HS3 := Lib.hid (HS3.out.below hb)
  clear x0 x1 x2 x3 xl
  clear hb
  have ba1 := (Below.refl w4.heap.size w4).alloc (Nat.le_refl _) (.cells #[.int .i64 0, .int .i64 0, .int .i64 0] 35)
  replace K := Lib.hid (K.out.go ba1)
  replace HS3 := Lib.hid (HS3.out.below ba1)
  have HP : Hid (P3At (w4.alloc (.cells #[.int .i64 0, .int .i64 0, .int .i64 0] 35)) w4.heap.size z3) := Lib.hid (P3At.new w4 z3 _ rfl)
  clear ba1
  have x0 := K.out.r.cell0; have x1 := K.out.r.cell1; have x2 := K.out.r.cell2; have x3 := K.out.r.cell3; have xl := K.out.r.lt
  go_wp2_with fail
  generalize World.alloc w4 _ = wp at *
  generalize w4.heap.size = g5 at *
  refine (HTP.out _ K.out.b).mono ?_
  rintro e w5 ⟨rfl, hb⟩
  replace K := Lib.hid (K.out.go hb)
  replace HS3 := Lib.hid (HS3.out.below hb)
  replace HP := Lib.hid (HP.out.below hb)
  clear x0 x1 x2 x3 xl
  clear hb
  have x0 := K.out.r.cell0; have x1 := K.out.r.cell1; have x2 := K.out.r.cell2; have x3 := K.out.r.cell3; have xl := K.out.r.lt
  go_wp2_with fail
  refine (HV.out _ K.out.b).mono ?_
  rintro e w6 ⟨rfl, hb⟩
  replace K := Lib.hid (K.out.go hb)
  replace HS3 := Lib.hid (HS3.out.below hb)
  replace HP := Lib.hid (HP.out.below hb)
  clear x0 x1 x2 x3 xl
  clear hb
  go_wp2_with fail
  go_loopw [18, 19] (fun wv i wr => ∃ (k : Nat), k ≤ l.length ∧ i = .int .i64 k ∧ wv = .bool (decide (AlwL r (l.take k) x y z)) ∧ Hid (LK r A cap l w wr) ∧ Hid (P3At wr g5 z3)) (fun _ i _ => l.length - (intOf i).toNat)
  case atStart => exact ⟨0, Nat.zero_le _, rfl, by rw [show decide (AlwL r (l.take 0) x y z) = true from decide_eq_true (fun p hp => by cases hp)], K, HP⟩
  case round =>
    clear K HP HS3
    obtain ⟨k, hk, rfl, rfl, K, HP⟩ := hrel
    by_cases hlt : k < l.length
    · obtain ⟨ba, oa, rfl, hba, hva⟩ := K.out.p.row (by omega)
      obtain ⟨y0, y1, y2, y3⟩ := hva k hlt
      have hp := HA.out.2 _ (List.getElem_mem hlt)
      have hnx := alw_next r l x y z k hlt
      have hdi := fun w' => kDist_any r l[k].s x y w'
      have htp := topPl_in HA.out.1 hp (x := x) (y := y) ⟨⟨d0, d1⟩, d2, d3⟩
      have hdd := dist_in HA.out.1 (x := x) (y := y) ⟨⟨d0, d1⟩, d2, d3⟩ l[k].s
      rw [show DistIs r l[k].s x y = distP r l[k].s x y from if_pos ⟨HA.out.1, hp.1, ⟨d0, d1⟩, d2, d3⟩] at hdi
      obtain ⟨u, hu⟩ : ∃ u, u = l[k] := ⟨_, rfl⟩
      rw [← hu] at y0 y1 y2 y3 hp hnx hdi htp hdd
      clear hu hva
      have HDI := Lib.hid hdi
      clear hdi
      have n0 : (0 : Int) ≤ (k : Int) := by omega
      have n1 : (k : Int) < (l.length : Int) := by omega
      have hlen := K.out.p.len
      have rk := HA.out.1
      obtain ⟨⟨r0, r1, r2⟩, r3, r4, r5⟩ := rk
      have p0 : IntKind.i64.wrap (x - r.X0) = x - r.X0 := IntWalk.i64_in _ (by omega)
      have p1 : IntKind.i64.wrap (r.X1 - 1) = r.X1 - 1 := IntWalk.i64_in _ (by omega)
      have p2 : IntKind.i64.wrap (r.X1 - 1 - x) = r.X1 - 1 - x := IntWalk.i64_in _ (by omega)
      have p3 : IntKind.i64.wrap (y - r.Y0) = y - r.Y0 := IntWalk.i64_in _ (by omega)
      have p4 : IntKind.i64.wrap (r.Y1 - 1) = r.Y1 - 1 := IntWalk.i64_in _ (by omega)
      have p5 : IntKind.i64.wrap (r.Y1 - 1 - y) = r.Y1 - 1 - y := IntWalk.i64_in _ (by omega)
      have x0 := K.out.r.cell0; have x1 := K.out.r.cell1; have x2 := K.out.r.cell2; have x3 := K.out.r.cell3; have xl := K.out.r.lt
      have ba1 := (Below.refl wr.heap.size wr).alloc (Nat.le_refl _) (.cells #[.int .i64 (x - r.X0), .int .i64 (r.X1 - 1 - x), .int .i64 (y - r.Y0), .int .i64 (r.Y1 - 1 - y)] 3)
      have K2 := Lib.hid (K.out.go ba1)
      have HP2 := Lib.hid (HP.out.below ba1)
      have HI := Lib.hid (I4.new wr (x - r.X0) (r.X1 - 1 - x) (y - r.Y0) (r.Y1 - 1 - y) _ rfl)
      have wc := fun o => ba1.cell (p := ⟨ba, o, none⟩) hba
      have y0' := (wc _).trans y0; have y1' := (wc _).trans y1; have y2' := (wc _).trans y2; have y3' := (wc _).trans y3
      have hbw := Nat.lt_of_lt_of_le hba ba1.size
      clear wc ba1 K HP y0 y1 y2 y3 hba
      go_wp2_with fail
      generalize World.alloc wr _ = wq at *
      generalize wr.heap.size = g at *
      clear x0 x1 x2 x3 xl p0 p1 p2 p3 p4 p5
      obtain ⟨⟨s0, s1⟩, hbb, hnn, dd0, dd1⟩ := hp
      have y4 := HI.out.dist s0 s1
      have yl := HI.out.lt
      have zz1 : IntKind.i64.wrap (z + 1 - u.b) = z + 1 - u.b := IntWalk.i64_in _ (by omega)
      have hm1 := Int.mul_le_mul (show z + 1 - u.b ≤ 4096 by omega) dd1 (by omega) (by omega)
      have hm2 := Int.mul_le_mul (show u.b - (z + 1) ≤ 4096 by omega) dd1 (by omega) (by omega)
      have hm3 : (u.b - (z + 1)) * u.d = -((z + 1 - u.b) * u.d) := by rw [← Int.neg_mul]; congr 1; omega
      rw [hm3] at hm2
      have zz2 : IntKind.i64.wrap ((z + 1 - u.b) * u.d) = (z + 1 - u.b) * u.d := IntWalk.i64_in _ (by omega)
      generalize distP r u.s x y = t at *
      have zz3 : IntKind.i64.wrap (u.n * t) = u.n * t := IntWalk.i64_in _ (by omega)
      have HNX := Lib.hid hnx
      clear hm1 hm2 hm3 htp hdd hnx hbb hnn dd0 dd1
      obtain ⟨zp, hzp⟩ : ∃ zp, z + 1 = zp := ⟨_, rfl⟩
      obtain ⟨m0, hm0⟩ : ∃ m0, z + 1 - u.b = m0 := ⟨_, rfl⟩
      obtain ⟨m1, hm1⟩ : ∃ m1, (z + 1 - u.b) * u.d = m1 := ⟨_, rfl⟩
      obtain ⟨m2, hm2⟩ : ∃ m2, u.n * t = m2 := ⟨_, rfl⟩
      obtain ⟨bb, hbb⟩ : ∃ bb, decide (m1 ≤ m2) = bb := ⟨_, rfl⟩
      replace HNX := Lib.hid (show decide (AlwL r (l.take (k + 1)) x y z) = (decide (AlwL r (l.take k) x y z) && bb) by rw [HNX.out, hm1, hm2, hbb])
      have zq1 : IntKind.i64.wrap (z + 1) = zp := q2.trans hzp
      have zq2 : IntKind.i64.wrap (zp - u.b) = m0 := by rw [← hzp]; exact zz1.trans hm0
      have zq3 : IntKind.i64.wrap (m0 * u.d) = m1 := by rw [← hm0]; exact zz2.trans hm1
      have zq4 : IntKind.i64.wrap (u.n * t) = m2 := zz3.trans hm2
      have Q2 := Lib.hid q2
      clear q2 hzp hm0 hm1 hm2 zz1 zz2 zz3
      generalize decide (AlwL r (l.take k) x y z) = wk at *
      have E1 : Hid (Zd w.heap.size ba (oa + k * 4) g u.s.toNat r u.s t wq wq) := Lib.hid ⟨K2.out.r.cell0, K2.out.r.cell1, K2.out.r.cell2, K2.out.r.cell3, y0', y4, K2.out.r.lt, hbw, yl, Lib.hid (Below.refl _ _)⟩
      cases wk with
      | true =>
        go_quiet (fail)
        go_wp2_with fail
        go_region_held3 (fun w' => w'.cell? ⟨w.heap.size, 0, none⟩ = some (.int .i64 r.X0) ∧ w'.cell? ⟨w.heap.size, 1, none⟩ = some (.int .i64 r.Y0) ∧ w'.cell? ⟨w.heap.size, 2, none⟩ = some (.int .i64 r.X1) ∧ w'.cell? ⟨w.heap.size, 3, none⟩ = some (.int .i64 r.Y1) ∧ w'.cell? ⟨ba, oa + k * 4, none⟩ = some (.int .i64 u.s) ∧ w'.cell? ⟨g, u.s.toNat, none⟩ = some (.int .i64 t) ∧ w.heap.size < w'.heap.size ∧ ba < w'.heap.size ∧ g < w'.heap.size ∧ Hid (Below wq.heap.size wq w'))
          (first | exact Zd.drewN (Zd.drewN E1.out _) 1 | exact Zd.go ‹_› ‹_› | assumption)
          (first | (go_at_call 11; refine (HDI.out _).mono ?_; rintro e w30 ⟨rfl, hb⟩) | fail)
        have E2 : Zd w.heap.size ba (oa + k * 4) g u.s.toNat r u.s t wq w30 := by assumption
        have hb30 := E2.2.2.2.2.2.2.2.2.2.out
        have K3 := Lib.hid (K2.out.go hb30)
        have HP3 := Lib.hid (HP2.out.below hb30)
        have q2 := Q2.out
        clear E1 E2 hb30 K2 HP2
        go_wp2_with fail
        go_roundw
        case rel => exact ⟨k + 1, by omega, by go_num, by rw [HNX.out]; rfl, K3, HP3⟩
        case measure => simp [intOf]; omega
      | false =>
        go_quiet (fail)
        go_wp2_with fail
        go_region_held3 (fun w' => w'.cell? ⟨w.heap.size, 0, none⟩ = some (.int .i64 r.X0) ∧ w'.cell? ⟨w.heap.size, 1, none⟩ = some (.int .i64 r.Y0) ∧ w'.cell? ⟨w.heap.size, 2, none⟩ = some (.int .i64 r.X1) ∧ w'.cell? ⟨w.heap.size, 3, none⟩ = some (.int .i64 r.Y1) ∧ w'.cell? ⟨ba, oa + k * 4, none⟩ = some (.int .i64 u.s) ∧ w'.cell? ⟨g, u.s.toNat, none⟩ = some (.int .i64 t) ∧ w.heap.size < w'.heap.size ∧ ba < w'.heap.size ∧ g < w'.heap.size ∧ Hid (Below wq.heap.size wq w'))
          (first | exact Zd.drewN (Zd.drewN E1.out _) 1 | exact Zd.go ‹_› ‹_› | assumption)
          (first | (go_at_call 11; refine (HDI.out _).mono ?_; rintro e w30 ⟨rfl, hb⟩) | fail)
        have E2 : Zd w.heap.size ba (oa + k * 4) g u.s.toNat r u.s t wq w30 := by assumption
        have hb30 := E2.2.2.2.2.2.2.2.2.2.out
        have K3 := Lib.hid (K2.out.go hb30)
        have HP3 := Lib.hid (HP2.out.below hb30)
        have q2 := Q2.out
        clear E1 E2 hb30 K2 HP2
        go_wp2_with fail
        go_roundw
        case rel => exact ⟨k + 1, by omega, by go_num, by rw [HNX.out]; rfl, K3, HP3⟩
        case measure => simp [intOf]; omega
    · obtain rfl : k = l.length := by omega
      rw [List.take_length, HALW.out]
      have hp0 := HP.out.c0; have hp1 := HP.out.c1; have hp2 := HP.out.c2; have hpl := HP.out.lt
      simp only [z3] at hp0 hp1 hp2
      go_wp2_with fail
      go_ret
      exact ⟨by first | rfl | (simp [hzt]), K.out.b⟩
set_option maxHeartbeats 40000000 in
theorem cubes_no (r : Rc) (A : Option Addr) (cap : Nat) (l : List Pl) (x y z : Int) (w : World) (hl : PlIn w A cap l) (hn : l.length ≤ 12) (hg : GC x y) (hz : 0 ≤ z ∧ z < 4096) (hc : ArgOk r l) (ha : ¬ AlwL r l x y z) :
    Calls Try.prog 3 #[.agg #[.int .i64 r.X0, .int .i64 r.Y0, .int .i64 r.X1, .int .i64 r.Y1], .slice A l.length cap, .int .i64 x, .int .i64 y, .int .i64 z] w (BlIs true w) := by
  have n12 : ¬ (12 : Int) < (l.length : Int) := by omega
  obtain ⟨⟨d0, d1⟩, d2, d3⟩ := hg
  obtain ⟨d4, d5⟩ := hz
  have e0 : ¬ x < 0 := by omega
  have e1 : ¬ 1048576 ≤ x := by omega
  have e2 : ¬ y < 0 := by omega
  have e3 : ¬ 1048576 ≤ y := by omega
  have e4 : ¬ z < 0 := by omega
  have e5 : ¬ 4096 ≤ z := by omega
  have q0 : IntKind.i64.wrap (x + 1) = x + 1 := IntWalk.i64_in _ (by omega)
  have q1 : IntKind.i64.wrap (y + 1) = y + 1 := IntWalk.i64_in _ (by omega)
  have q2 : IntKind.i64.wrap (z + 1) = z + 1 := IntWalk.i64_in _ (by omega)
  obtain ⟨S, hS⟩ := cube_sol (x := x) (y := y) (z := z) ⟨⟨d0, d1⟩, d2, d3⟩ ⟨d4, d5⟩
  have K := Lib.hid (LK.start (r := r) hl)
  have HSM := Lib.hid (fun w' => msmall_any w')
  have HOF := Lib.hid (fun (w' : World) (k : Nat) (hk : k = w'.heap.size) => show Calls Try.prog 6 #[.slice (some ⟨k, 0, none⟩) 1 1] (w'.alloc (.cells #[.int .i64 x, .int .i64 y, .int .i64 (x + 1), .int .i64 (y + 1), .int .i64 z, .int .i64 (z + 1)] 31)) (OfE S S.length 0 (w'.alloc (.cells #[.int .i64 x, .int .i64 y, .int .i64 (x + 1), .int .i64 (y + 1), .int .i64 z, .int .i64 (z + 1)] 31))) from by
    have h1 := bof_any (some ⟨k, 0, none⟩) 1 [boxC x y z] _ (lit_box10 w' (boxC x y z) k hk) (by simp)
    rw [hS.is] at h1; exact h1)
  have HAL := Lib.hid (fun w' (h : Below w.heap.size w w') A2 c2 (hs : SIn w' A2 c2 S) => (kAllows_any r A cap l A2 c2 S w' (hl.below h) hs).mono fun e w2 k => AlIs.is (b := false) ⟨fun h => (by cases h), fun h => absurd ((cube_all hc ⟨d4, d5⟩ hS).1 h.2) ha⟩ k)
  have hfc := cube_first hc ⟨d4, d5⟩ hS
  rw [if_neg ha] at hfc
  have HFI := Lib.hid (fun w' (h : Below w.heap.size w w') A2 c2 (hs : SIn w' A2 c2 S) => (kFirst_any r A cap l A2 c2 S w' (hl.below h) hs).mono fun e w2 k => show FsE ⟨x, y, z⟩ true w' e w2 from FC.yes ⟨hc, hS.sol⟩ hfc k)
  have hti := top_iff (r := r) hc.2 (x := x) (y := y) d4 d5
  have htn := top_in r l x y
  have HTP := Lib.hid (fun w' (h : Below w.heap.size w w') => show Calls Try.prog 9 #[.agg #[.int .i64 r.X0, .int .i64 r.Y0, .int .i64 r.X1, .int .i64 r.Y1], .slice A l.length cap, .int .i64 x, .int .i64 y] w' (InIs (topH r l x y) w') from by
    have h1 := kTop_any r A cap l x y w' (hl.below h)
    rw [show TopIs r l x y = topH r l x y from if_pos ⟨hc, ⟨d0, d1⟩, d2, d3⟩] at h1; exact h1)
  have HV := Lib.hid (fun w' (h : Below w.heap.size w w') => show Calls Try.prog 10 #[.agg #[.int .i64 r.X0, .int .i64 r.Y0, .int .i64 r.X1, .int .i64 r.Y1], .slice A l.length cap] w' (BlIs true w') from by
    have h1 := mvalid_any r A cap l w' (hl.below h)
    rw [decide_eq_true hc] at h1; exact h1)
  have hzt : ¬ z < topH r l x y := fun h => ha (hti.1 h)
  have t0 : ¬ topH r l x y < 0 := by omega
  have t1 : ¬ 4096 < topH r l x y := by omega
  have HALW : Hid (decide (AlwL r l x y z) = false) := Lib.hid (decide_eq_false ha)
  generalize topH r l x y = tp at *
  have HA := Lib.hid hc
  clear hti htn hfc ha
  obtain ⟨nS, hnS⟩ : ∃ nS, S.length = nS := ⟨_, rfl⟩
  rw [hnS] at HOF
  have HNS := Lib.hid hnS
  clear hnS
  replace HAL := Lib.hid (show ∀ w', Below w.heap.size w w' → ∀ A2 c2, SIn w' A2 c2 S → Calls Try.prog 7 #[.agg #[.int .i64 r.X0, .int .i64 r.Y0, .int .i64 r.X1, .int .i64 r.Y1], .slice A l.length cap, .slice A2 nS c2] w' _ from by rw [← HNS.out]; exact HAL.out)
  replace HFI := Lib.hid (show ∀ w', Below w.heap.size w w' → ∀ A2 c2, SIn w' A2 c2 S → Calls Try.prog 8 #[.agg #[.int .i64 r.X0, .int .i64 r.Y0, .int .i64 r.X1, .int .i64 r.Y1], .slice A l.length cap, .slice A2 nS c2] w' _ from by rw [← HNS.out]; exact HFI.out)
  clear hl hS
  go_enter Try.func3, Try.ntmps3
  go_wp2_with fail
  generalize World.alloc w _ = w0 at *
  refine (HSM.out _).mono ?_
  rintro e w1 ⟨rfl, hb⟩
  replace K := Lib.hid (K.out.go hb)
  clear hb
  go_wp2_with fail
  have ba1 := (Below.refl w1.heap.size w1).alloc (Nat.le_refl _) (.cells #[.int .i64 x, .int .i64 y, .int .i64 (x + 1), .int .i64 (y + 1), .int .i64 z, .int .i64 (z + 1)] 31)
  replace K := Lib.hid (K.out.go ba1)
  clear ba1
  refine (HOF.out _ _ rfl).mono ?_
  rintro e w2 ⟨A3, c3, rfl, hs3, hb⟩
  replace K := Lib.hid (K.out.go hb)
  have HS3 := Lib.hid hs3
  clear hs3
  clear hb
  have x0 := K.out.r.cell0; have x1 := K.out.r.cell1; have x2 := K.out.r.cell2; have x3 := K.out.r.cell3; have xl := K.out.r.lt
  go_wp2_with fail
  refine (HAL.out _ K.out.b _ _ HS3.out).mono ?_
  rintro e w3 ⟨rfl, hb⟩
  replace K := Lib.hid (K.out.go hb)
  replace HS3 := Lib.hid (HS3.out.below hb)
  clear x0 x1 x2 x3 xl
  clear hb
  have x0 := K.out.r.cell0; have x1 := K.out.r.cell1; have x2 := K.out.r.cell2; have x3 := K.out.r.cell3; have xl := K.out.r.lt
  go_wp2_with fail
  refine (HFI.out _ K.out.b _ _ HS3.out).mono ?_
  rintro e w4 ⟨rfl, hb⟩
  replace K := Lib.hid (K.out.go hb)
  replace HS3 := Lib.hid (HS3.out.below hb)
  clear x0 x1 x2 x3 xl
  clear hb
  have ba1 := (Below.refl w4.heap.size w4).alloc (Nat.le_refl _) (.cells #[.int .i64 x, .int .i64 y, .int .i64 z] 35)
  replace K := Lib.hid (K.out.go ba1)
  replace HS3 := Lib.hid (HS3.out.below ba1)
  have HP : Hid (P3At (w4.alloc (.cells #[.int .i64 x, .int .i64 y, .int .i64 z] 35)) w4.heap.size (⟨x, y, z⟩ : P3)) := Lib.hid (P3At.new w4 (⟨x, y, z⟩ : P3) _ rfl)
  clear ba1
  have x0 := K.out.r.cell0; have x1 := K.out.r.cell1; have x2 := K.out.r.cell2; have x3 := K.out.r.cell3; have xl := K.out.r.lt
  go_wp2_with fail
  generalize World.alloc w4 _ = wp at *
  generalize w4.heap.size = g5 at *
  refine (HTP.out _ K.out.b).mono ?_
  rintro e w5 ⟨rfl, hb⟩
  replace K := Lib.hid (K.out.go hb)
  replace HS3 := Lib.hid (HS3.out.below hb)
  replace HP := Lib.hid (HP.out.below hb)
  clear x0 x1 x2 x3 xl
  clear hb
  have x0 := K.out.r.cell0; have x1 := K.out.r.cell1; have x2 := K.out.r.cell2; have x3 := K.out.r.cell3; have xl := K.out.r.lt
  go_wp2_with fail
  refine (HV.out _ K.out.b).mono ?_
  rintro e w6 ⟨rfl, hb⟩
  replace K := Lib.hid (K.out.go hb)
  replace HS3 := Lib.hid (HS3.out.below hb)
  replace HP := Lib.hid (HP.out.below hb)
  clear x0 x1 x2 x3 xl
  clear hb
  go_wp2_with fail
  go_loopw [18, 19] (fun wv i wr => ∃ (k : Nat), k ≤ l.length ∧ i = .int .i64 k ∧ wv = .bool (decide (AlwL r (l.take k) x y z)) ∧ Hid (LK r A cap l w wr) ∧ Hid (P3At wr g5 (⟨x, y, z⟩ : P3))) (fun _ i _ => l.length - (intOf i).toNat)
  case atStart => exact ⟨0, Nat.zero_le _, rfl, by rw [show decide (AlwL r (l.take 0) x y z) = true from decide_eq_true (fun p hp => by cases hp)], K, HP⟩
  case round =>
    clear K HP HS3
    obtain ⟨k, hk, rfl, rfl, K, HP⟩ := hrel
    by_cases hlt : k < l.length
    · obtain ⟨ba, oa, rfl, hba, hva⟩ := K.out.p.row (by omega)
      obtain ⟨y0, y1, y2, y3⟩ := hva k hlt
      have hp := HA.out.2 _ (List.getElem_mem hlt)
      have hnx := alw_next r l x y z k hlt
      have hdi := fun w' => kDist_any r l[k].s x y w'
      have htp := topPl_in HA.out.1 hp (x := x) (y := y) ⟨⟨d0, d1⟩, d2, d3⟩
      have hdd := dist_in HA.out.1 (x := x) (y := y) ⟨⟨d0, d1⟩, d2, d3⟩ l[k].s
      rw [show DistIs r l[k].s x y = distP r l[k].s x y from if_pos ⟨HA.out.1, hp.1, ⟨d0, d1⟩, d2, d3⟩] at hdi
      obtain ⟨u, hu⟩ : ∃ u, u = l[k] := ⟨_, rfl⟩
      rw [← hu] at y0 y1 y2 y3 hp hnx hdi htp hdd
      clear hu hva
      have HDI := Lib.hid hdi
      clear hdi
      have n0 : (0 : Int) ≤ (k : Int) := by omega
      have n1 : (k : Int) < (l.length : Int) := by omega
      have hlen := K.out.p.len
      have rk := HA.out.1
      obtain ⟨⟨r0, r1, r2⟩, r3, r4, r5⟩ := rk
      have p0 : IntKind.i64.wrap (x - r.X0) = x - r.X0 := IntWalk.i64_in _ (by omega)
      have p1 : IntKind.i64.wrap (r.X1 - 1) = r.X1 - 1 := IntWalk.i64_in _ (by omega)
      have p2 : IntKind.i64.wrap (r.X1 - 1 - x) = r.X1 - 1 - x := IntWalk.i64_in _ (by omega)
      have p3 : IntKind.i64.wrap (y - r.Y0) = y - r.Y0 := IntWalk.i64_in _ (by omega)
      have p4 : IntKind.i64.wrap (r.Y1 - 1) = r.Y1 - 1 := IntWalk.i64_in _ (by omega)
      have p5 : IntKind.i64.wrap (r.Y1 - 1 - y) = r.Y1 - 1 - y := IntWalk.i64_in _ (by omega)
      have x0 := K.out.r.cell0; have x1 := K.out.r.cell1; have x2 := K.out.r.cell2; have x3 := K.out.r.cell3; have xl := K.out.r.lt
      have ba1 := (Below.refl wr.heap.size wr).alloc (Nat.le_refl _) (.cells #[.int .i64 (x - r.X0), .int .i64 (r.X1 - 1 - x), .int .i64 (y - r.Y0), .int .i64 (r.Y1 - 1 - y)] 3)
      have K2 := Lib.hid (K.out.go ba1)
      have HP2 := Lib.hid (HP.out.below ba1)
      have HI := Lib.hid (I4.new wr (x - r.X0) (r.X1 - 1 - x) (y - r.Y0) (r.Y1 - 1 - y) _ rfl)
      have wc := fun o => ba1.cell (p := ⟨ba, o, none⟩) hba
      have y0' := (wc _).trans y0; have y1' := (wc _).trans y1; have y2' := (wc _).trans y2; have y3' := (wc _).trans y3
      have hbw := Nat.lt_of_lt_of_le hba ba1.size
      clear wc ba1 K HP y0 y1 y2 y3 hba
      go_wp2_with fail
      generalize World.alloc wr _ = wq at *
      generalize wr.heap.size = g at *
      clear x0 x1 x2 x3 xl p0 p1 p2 p3 p4 p5
      obtain ⟨⟨s0, s1⟩, hbb, hnn, dd0, dd1⟩ := hp
      have y4 := HI.out.dist s0 s1
      have yl := HI.out.lt
      have zz1 : IntKind.i64.wrap (z + 1 - u.b) = z + 1 - u.b := IntWalk.i64_in _ (by omega)
      have hm1 := Int.mul_le_mul (show z + 1 - u.b ≤ 4096 by omega) dd1 (by omega) (by omega)
      have hm2 := Int.mul_le_mul (show u.b - (z + 1) ≤ 4096 by omega) dd1 (by omega) (by omega)
      have hm3 : (u.b - (z + 1)) * u.d = -((z + 1 - u.b) * u.d) := by rw [← Int.neg_mul]; congr 1; omega
      rw [hm3] at hm2
      have zz2 : IntKind.i64.wrap ((z + 1 - u.b) * u.d) = (z + 1 - u.b) * u.d := IntWalk.i64_in _ (by omega)
      generalize distP r u.s x y = t at *
      have zz3 : IntKind.i64.wrap (u.n * t) = u.n * t := IntWalk.i64_in _ (by omega)
      have HNX := Lib.hid hnx
      clear hm1 hm2 hm3 htp hdd hnx hbb hnn dd0 dd1
      obtain ⟨zp, hzp⟩ : ∃ zp, z + 1 = zp := ⟨_, rfl⟩
      obtain ⟨m0, hm0⟩ : ∃ m0, z + 1 - u.b = m0 := ⟨_, rfl⟩
      obtain ⟨m1, hm1⟩ : ∃ m1, (z + 1 - u.b) * u.d = m1 := ⟨_, rfl⟩
      obtain ⟨m2, hm2⟩ : ∃ m2, u.n * t = m2 := ⟨_, rfl⟩
      obtain ⟨bb, hbb⟩ : ∃ bb, decide (m1 ≤ m2) = bb := ⟨_, rfl⟩
      replace HNX := Lib.hid (show decide (AlwL r (l.take (k + 1)) x y z) = (decide (AlwL r (l.take k) x y z) && bb) by rw [HNX.out, hm1, hm2, hbb])
      have zq1 : IntKind.i64.wrap (z + 1) = zp := q2.trans hzp
      have zq2 : IntKind.i64.wrap (zp - u.b) = m0 := by rw [← hzp]; exact zz1.trans hm0
      have zq3 : IntKind.i64.wrap (m0 * u.d) = m1 := by rw [← hm0]; exact zz2.trans hm1
      have zq4 : IntKind.i64.wrap (u.n * t) = m2 := zz3.trans hm2
      have Q2 := Lib.hid q2
      clear q2 hzp hm0 hm1 hm2 zz1 zz2 zz3
      generalize decide (AlwL r (l.take k) x y z) = wk at *
      have E1 : Hid (Zd w.heap.size ba (oa + k * 4) g u.s.toNat r u.s t wq wq) := Lib.hid ⟨K2.out.r.cell0, K2.out.r.cell1, K2.out.r.cell2, K2.out.r.cell3, y0', y4, K2.out.r.lt, hbw, yl, Lib.hid (Below.refl _ _)⟩
      cases wk with
      | true =>
        go_quiet (fail)
        go_wp2_with fail
        go_region_held3 (fun w' => w'.cell? ⟨w.heap.size, 0, none⟩ = some (.int .i64 r.X0) ∧ w'.cell? ⟨w.heap.size, 1, none⟩ = some (.int .i64 r.Y0) ∧ w'.cell? ⟨w.heap.size, 2, none⟩ = some (.int .i64 r.X1) ∧ w'.cell? ⟨w.heap.size, 3, none⟩ = some (.int .i64 r.Y1) ∧ w'.cell? ⟨ba, oa + k * 4, none⟩ = some (.int .i64 u.s) ∧ w'.cell? ⟨g, u.s.toNat, none⟩ = some (.int .i64 t) ∧ w.heap.size < w'.heap.size ∧ ba < w'.heap.size ∧ g < w'.heap.size ∧ Hid (Below wq.heap.size wq w'))
          (first | exact Zd.drewN (Zd.drewN E1.out _) 1 | exact Zd.go ‹_› ‹_› | assumption)
          (first | (go_at_call 11; refine (HDI.out _).mono ?_; rintro e w30 ⟨rfl, hb⟩) | fail)
        have E2 : Zd w.heap.size ba (oa + k * 4) g u.s.toNat r u.s t wq w30 := by assumption
        have hb30 := E2.2.2.2.2.2.2.2.2.2.out
        have K3 := Lib.hid (K2.out.go hb30)
        have HP3 := Lib.hid (HP2.out.below hb30)
        have q2 := Q2.out
        clear E1 E2 hb30 K2 HP2
        go_wp2_with fail
        go_roundw
        case rel => exact ⟨k + 1, by omega, by go_num, by rw [HNX.out]; rfl, K3, HP3⟩
        case measure => simp [intOf]; omega
      | false =>
        go_quiet (fail)
        go_wp2_with fail
        go_region_held3 (fun w' => w'.cell? ⟨w.heap.size, 0, none⟩ = some (.int .i64 r.X0) ∧ w'.cell? ⟨w.heap.size, 1, none⟩ = some (.int .i64 r.Y0) ∧ w'.cell? ⟨w.heap.size, 2, none⟩ = some (.int .i64 r.X1) ∧ w'.cell? ⟨w.heap.size, 3, none⟩ = some (.int .i64 r.Y1) ∧ w'.cell? ⟨ba, oa + k * 4, none⟩ = some (.int .i64 u.s) ∧ w'.cell? ⟨g, u.s.toNat, none⟩ = some (.int .i64 t) ∧ w.heap.size < w'.heap.size ∧ ba < w'.heap.size ∧ g < w'.heap.size ∧ Hid (Below wq.heap.size wq w'))
          (first | exact Zd.drewN (Zd.drewN E1.out _) 1 | exact Zd.go ‹_› ‹_› | assumption)
          (first | (go_at_call 11; refine (HDI.out _).mono ?_; rintro e w30 ⟨rfl, hb⟩) | fail)
        have E2 : Zd w.heap.size ba (oa + k * 4) g u.s.toNat r u.s t wq w30 := by assumption
        have hb30 := E2.2.2.2.2.2.2.2.2.2.out
        have K3 := Lib.hid (K2.out.go hb30)
        have HP3 := Lib.hid (HP2.out.below hb30)
        have q2 := Q2.out
        clear E1 E2 hb30 K2 HP2
        go_wp2_with fail
        go_roundw
        case rel => exact ⟨k + 1, by omega, by go_num, by rw [HNX.out]; rfl, K3, HP3⟩
        case measure => simp [intOf]; omega
    · obtain rfl : k = l.length := by omega
      rw [List.take_length, HALW.out]
      have hp0 := HP.out.c0; have hp1 := HP.out.c1; have hp2 := HP.out.c2; have hpl := HP.out.lt
      simp only [] at hp0 hp1 hp2
      go_wp2_with fail
      go_ret
      exact ⟨by first | rfl | (simp [hzt]), K.out.b⟩
theorem cubes10_walk (r : Rc) (A : Option Addr) (cap : Nat) (l : List Pl) (x y z : Int) (w : World) (h0 : PlRow w A l) (h1 : l.length ≤ cap) (h2 : cap ≤ 9223372036854775807) :
    Calls Try.prog 3 #[.agg #[.int .i64 r.X0, .int .i64 r.Y0, .int .i64 r.X1, .int .i64 r.Y1], .slice A l.length cap, .int .i64 x, .int .i64 y, .int .i64 z] w (BlIs true w) := by
  by_cases hn : 12 < (l.length : Int) ∨ x < 0 ∨ 1048576 ≤ x ∨ y < 0 ∨ 1048576 ≤ y ∨ z < 0 ∨ 4096 ≤ z
  · exact cubes_head r A cap l x y z w hn
  · have hl : PlIn w A cap l := ⟨h0, by omega, h1, h2⟩
    by_cases hc : ArgOk r l
    · by_cases ha : AlwL r l x y z
      · exact cubes_yes r A cap l x y z w hl (by omega) ⟨⟨by omega, by omega⟩, by omega, by omega⟩ ⟨by omega, by omega⟩ hc ha
      · exact cubes_no r A cap l x y z w hl (by omega) ⟨⟨by omega, by omega⟩, by omega, by omega⟩ ⟨by omega, by omega⟩ hc ha
    · exact cubes_bad r A cap l x y z w hl (by omega) ⟨⟨by omega, by omega⟩, by omega, by omega⟩ ⟨by omega, by omega⟩ hc
end Go.Proofs.Ytppomhgknhmceaa
