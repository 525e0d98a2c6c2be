/-
  PlaneFirsts: before, few, the walk.
-/
import Derived.Test.YtppomhgknhmceaaGreatDr
import Derived.Test.YtppomhgknhmceaaGreatCa
import Derived.Test.YtppomhgknhmceaaGreatAq
import Derived.Deep.Cut
set_option linter.unusedVariables false
set_option maxRecDepth 100000
namespace Go.Proofs.YtppomhgknhmceaaGreat
open Go.RowKit

def OfE (S : List Sl) (n : Nat) (er : Int) (w : World) (e : Ending) (w' : World) : Prop := ∃ A c, e = .returned (.tuple #[.slice A n c, .int .i64 er]) ∧ SIn w' A c S ∧ Below w.heap.size w w'
def FsE (p : P3) (b : Bool) (w : World) (e : Ending) (w' : World) : Prop := e = .returned (.tuple #[.agg #[.int .i64 p.x, .int .i64 p.y, .int .i64 p.z], .bool b]) ∧ Below w.heap.size w w'
def FsZ (w : World) (e : Ending) (w' : World) : Prop := e = .returned (.tuple #[.agg #[.int .i64 0, .int .i64 0, .int .i64 0], .bool false]) ∧ Below w.heap.size w w'
theorem FC.yes {r : Rc} {l : List Pl} {S : List Sl} (ha : ArgOk r l ∧ SolP S) {y : P3 × Bool} (hy : FstP r l S y) {w w' : World} {e : Ending} (h : FIs r l S w e w') : FsE y.1 y.2 w e w' := by
  obtain ⟨x, rfl, hx, hb⟩ := h
  obtain rfl := (hx.1 ha).eq hy
  exact ⟨rfl, hb⟩
theorem AlIs.is {r : Rc} {l : List Pl} {S : List Sl} {b : Bool} (hb : b = true ↔ (ArgOk r l ∧ SolP S) ∧ AllB r l S) {w w' : World} {e : Ending} (h : AlIs r l S w e w') : BlIs b w e w' := by
  obtain ⟨c, hc, k⟩ := h
  have : c = b := by rw [Bool.eq_iff_iff, hc, hb]
  subst this
  exact k
/-! ### the cubes before a cube -/
def befZ (p : P3) : List Bx := if 0 < p.z then [⟨⟨0, 0, 1048576, 1048576⟩, 0, p.z⟩] else []
def befX (p : P3) : List Bx := if 0 < p.x then [⟨⟨0, 0, p.x, 1048576⟩, p.z, p.z + 1⟩] else []
def befY (p : P3) : List Bx := if 0 < p.y then [⟨⟨p.x, 0, p.x + 1, p.y⟩, p.z, p.z + 1⟩] else []
def befL (p : P3) : List Bx := befZ p ++ befX p ++ befY p
def P3Ok (p : P3) : Prop := GC p.x p.y ∧ 0 ≤ p.z ∧ p.z < 4096
theorem bef_ok {p : P3} (h : P3Ok p) : ∀ b ∈ befL p, BOk b := by
  obtain ⟨⟨⟨h0, h1⟩, h2, h3⟩, h4, h5⟩ := h
  intro b hb
  unfold befL befZ befX befY at hb
  rcases List.mem_append.1 hb with hb | hb
  · rcases List.mem_append.1 hb with hb | hb
    · split at hb
      · rw [List.mem_singleton] at hb; subst hb; unfold BOk ROk Span HOk; simp only []; omega
      · cases hb
    · split at hb
      · rw [List.mem_singleton] at hb; subst hb; unfold BOk ROk Span HOk; simp only []; omega
      · cases hb
  · split at hb
    · rw [List.mem_singleton] at hb; subst hb; unfold BOk ROk Span HOk; simp only []; omega
    · cases hb
theorem bef_len (p : P3) : (befL p).length ≤ 3 := by
  unfold befL befZ befX befY
  rw [List.length_append, List.length_append]
  split <;> split <;> split <;> simp
theorem bef_has {p : P3} (h : P3Ok p) {x y z : Int} (hb : HasB (befL p) x y z) : Bef x y z p := by
  obtain ⟨b, hm, ⟨_, k1, k2, k3, k4⟩, k5, k6⟩ := hb
  unfold befL befZ befX befY at hm
  unfold Bef LexC
  rcases List.mem_append.1 hm with hm | hm
  · rcases List.mem_append.1 hm with hm | hm
    · split at hm
      · rw [List.mem_singleton] at hm; subst hm; simp only [] at k1 k2 k3 k4 k5 k6; omega
      · cases hm
    · split at hm
      · rw [List.mem_singleton] at hm; subst hm; simp only [] at k1 k2 k3 k4 k5 k6; omega
      · cases hm
  · split at hm
    · rw [List.mem_singleton] at hm; subst hm; simp only [] at k1 k2 k3 k4 k5 k6; omega
    · cases hm
theorem cube_ok {S : List Sl} (hS : SolP S) {x y z : Int} (h : HasL (secS S z) x y) : P3Ok ⟨x, y, z⟩ := by
  obtain ⟨s, hs, ⟨h1, h2⟩, q, hq, hqo, q1, q2, q3, q4⟩ := (sec_has hS.form).1 h
  have hk := (hS.form.each s hs).h
  unfold HOk at hk
  unfold ROk Span at hqo
  unfold P3Ok GC
  simp only []
  omega
theorem first_ok {r : Rc} {l : List Pl} {S : List Sl} (hS : SolP S) {p : P3} (h : FstC r l S p) : P3Ok p := cube_ok hS h.has
def code10 (p : P3) : Nat := (p.z * 1099511627776 + p.x * 1048576 + p.y).toNat
theorem first_some {r : Rc} {l : List Pl} {S : List Sl} (hS : SolP S) (ha : ¬ AllB r l S) : ∃ p, FstC r l S p := by
  have key : ∀ n (p : P3), code10 p = n → HasL (secS S p.z) p.x p.y → topH r l p.x p.y ≤ p.z → ∃ q, FstC r l S q := by
    intro n
    induction n using Nat.strongRecOn with
    | _ n ih =>
      intro p hn hp ht
      by_cases c : ∀ x y z, HasL (secS S z) x y → Bef x y z p → z < topH r l x y
      · exact ⟨p, hp, ht, c⟩
      · simp only [Classical.not_forall] at c
        obtain ⟨x, y, z, h1, h2, h3⟩ := c
        refine ih (code10 ⟨x, y, z⟩) ?_ ⟨x, y, z⟩ rfl h1 (by show topH r l x y ≤ z; omega)
        have k1 := cube_ok hS h1
        have k2 := cube_ok hS hp
        unfold P3Ok GC at k1 k2
        unfold Bef LexC at h2
        unfold code10 at hn ⊢
        simp only [] at k1 k2 ⊢
        omega
  unfold AllB at ha
  simp only [Classical.not_forall] at ha
  obtain ⟨x, y, z, h1, h2⟩ := ha
  exact key _ ⟨x, y, z⟩ rfl h1 (by show topH r l x y ≤ z; omega)
/-- the cubes of a solid before its first one that is not allowed are allowed. -/
theorem bef_all {r : Rc} {l : List Pl} {S : List Sl} (hS : SolP S) {p : P3} (h : FstC r l S p) : AllB r l (solO and S (solB (befL p))) := by
  have hp := first_ok hS h
  have k := cs_and (CS.self hS.form) (cs_b (bef_ok hp))
  intro x y z hh
  rw [k.cubes] at hh
  exact h.bef x y z hh.1 (bef_has hp hh.2)
set_option maxHeartbeats 2000000 in
theorem mfew_any (A : Option Addr) (cap : Nat) (l : List Pl) (A2 : Option Addr) (c2 : Nat) (s : List Bx) (w : World) :
    Calls Tryz.prog 15 #[.slice A l.length cap, .slice A2 s.length c2] w (BlIs (decide (l.length ≤ 12 ∧ s.length ≤ 12)) w) := by
  by_cases c0 : (l.length : Int) ≤ 12
  · by_cases c1 : (s.length : Int) ≤ 12
    · rw [show decide (l.length ≤ 12 ∧ s.length ≤ 12) = true from decide_eq_true ⟨by omega, by omega⟩]
      go_enter Tryz.func15, Tryz.ntmps15
      go_wp2
      go_ret
      exact ⟨rfl, by (repeat' first | exact Below.refl _ _ | assumption | (apply below_drewN) | (refine Below.setCell ?_ (by (try simp); (try omega)) _) | (refine Below.alloc ?_ (by (try simp); (try omega)) _) | (refine Below.trans ?_ (Below.mono (Hid.out (by assumption)) (by (try simp); (try omega)))))⟩
    · rw [show decide (l.length ≤ 12 ∧ s.length ≤ 12) = false from decide_eq_false (by omega)]
      go_enter Tryz.func15, Tryz.ntmps15
      go_wp2
      go_ret
      exact ⟨by first | rfl | (apply ret_bl; rw [decide_eq_false_iff_not]; omega), by (repeat' first | exact Below.refl _ _ | assumption | (apply below_drewN) | (refine Below.setCell ?_ (by (try simp); (try omega)) _) | (refine Below.alloc ?_ (by (try simp); (try omega)) _) | (refine Below.trans ?_ (Below.mono (Hid.out (by assumption)) (by (try simp); (try omega)))))⟩
  · rw [show decide (l.length ≤ 12 ∧ s.length ≤ 12) = false from decide_eq_false (by omega)]
    go_enter Tryz.func15, Tryz.ntmps15
    go_wp2
    go_ret
    exact ⟨by first | rfl | (apply ret_bl; rw [decide_eq_false_iff_not]; omega), by (repeat' first | exact Below.refl _ _ | assumption | (apply below_drewN) | (refine Below.setCell ?_ (by (try simp); (try omega)) _) | (refine Below.alloc ?_ (by (try simp); (try omega)) _) | (refine Below.trans ?_ (Below.mono (Hid.out (by assumption)) (by (try simp); (try omega)))))⟩
theorem one6 (a b c d e f : Int) : ∀ u ∈ [Value.int .i64 a, .int .i64 b, .int .i64 c, .int .i64 d, .int .i64 e, .int .i64 f], u.oneCell' = true := by
  intro u hu; simp only [List.mem_cons, List.not_mem_nil, or_false] at hu; rcases hu with rfl | rfl | rfl | rfl | rfl | rfl <;> rfl
theorem h63_0 : 0 + 1 ≤ maxLen := by unfold maxLen; omega
theorem h63_1 : 1 + 1 ≤ maxLen := by unfold maxLen; omega
theorem h63_2 : 2 + 1 ≤ maxLen := by unfold maxLen; omega
theorem h48_0 : (0 + 1) * 48 ≤ 140737488355328 := by omega
theorem h48_1 : (1 + 1) * 48 ≤ 140737488355328 := by omega
theorem h48_2 : (2 + 1) * 48 ≤ 140737488355328 := by omega
set_option maxHeartbeats 80000000 in
theorem mbefore_any (A : Option Addr) (cap : Nat) (S : List Sl) (p : P3) (w : World) (hs : SIn w A cap S) (hp : P3Ok p) (hS : SolP S) :
    Calls Tryz.prog 30 #[.slice A S.length cap, .agg #[.int .i64 p.x, .int .i64 p.y, .int .i64 p.z]] w (SolRes (opS and S (solB (befL p))) w) := by
  obtain ⟨W0, hW0⟩ : ∃ W0, W0 = w.alloc (.cells #[.int .i64 p.x, .int .i64 p.y, .int .i64 p.z] 37) := ⟨_, rfl⟩
  obtain ⟨W, hW⟩ : ∃ W, W = W0.alloc (.cells #[.int .i64 0, .int .i64 0, .int .i64 1048576, .int .i64 1048576] 33) := ⟨_, rfl⟩
  have b0 : Below w.heap.size w W0 := by rw [hW0]; exact (Below.refl _ _).alloc (Nat.le_refl _) _
  have bW : Below W0.heap.size W0 W := by rw [hW]; exact (Below.refl _ _).alloc (Nat.le_refl _) _
  have e0 : W0.heap.size = w.heap.size + 1 := by rw [hW0]; simp
  have HWW := Lib.hid (b0.trans (bW.mono b0.size))
  have k0 : P3At W0 w.heap.size p := by rw [hW0]; exact P3At.new w p _ rfl
  have HP := Lib.hid (k0.below bW)
  have HR : Hid (RcAt W (w.heap.size + 1) ⟨0, 0, 1048576, 1048576⟩) := Lib.hid (by rw [hW, ← e0]; exact RcAt.new W0 ⟨0, 0, 1048576, 1048576⟩ _ rfl)
  have hmp := ofS_small (bef_ok hp) (by have := bef_len p; omega)
  have hlb := bef_len p
  have HOF := Lib.hid (fun (w' : World) (A' : Option Addr) (c' : Nat) (h : BxRow w' A' (befL p)) => show Calls Tryz.prog 11 #[.slice A' (befL p).length c'] w' (OfE (solB (befL p)) (solB (befL p)).length 0 w') from by
    have h1 := bof_any A' c' (befL p) w' h (by omega)
    rw [hmp] at h1; exact h1)
  have HCO := Lib.hid (fun (w' : World) (h : Below w.heap.size w w') A5 c5 (h5 : SIn w' A5 c5 (solB (befL p))) => bcommon_any A cap A5 c5 S (solB (befL p)) w' (hs.below h) h5)
  have HQ : Hid (QW (.slice none 0 0) ([] : List Bx) W W) := Lib.hid ⟨World.ownsRow_nil _ _ _ _, Below.refl _ _⟩
  obtain ⟨⟨⟨g0, g1⟩, g2, g3⟩, g4, g5⟩ := hp
  have q0 : IntKind.i64.wrap (p.z + 1) = p.z + 1 := IntWalk.i64_in _ (by omega)
  have q1 : IntKind.i64.wrap (p.x + 1) = p.x + 1 := IntWalk.i64_in _ (by omega)
  obtain ⟨i9, hi9, hz0, hz1, hz2⟩ := info_parts infoBox
  have x0 := HP.out.c0; have x1 := HP.out.c1; have x2 := HP.out.c2; have xl := HP.out.lt
  obtain ⟨SM, hSM⟩ : ∃ SM, SM = solB (befL p) := ⟨_, rfl⟩
  rw [← hSM] at HOF HCO ⊢
  clear hSM hmp hlb b0 bW e0 k0 hs hS
  generalize SM.length = nM at *
  obtain ⟨XR, hXR⟩ : ∃ XR, XR = opS and S SM := ⟨_, rfl⟩
  rw [← hXR] at HCO ⊢
  clear hXR
  go_enter Tryz.func30, Tryz.ntmps30
  go_upto_region 3 with fail
  rw [← hW0, ← hW]
  clear hW0 hW
  generalize hv0 : Value.slice none 0 0 = v0 at HQ ⊢
  clear hv0
  by_cases pz : 0 < p.z
  · skip
    by_cases px : 0 < p.x
    · skip
      by_cases py : 0 < p.y
      · skip
        have HBL : Hid (befL p = (([] : List Bx) ++ [⟨⟨0, 0, 1048576, 1048576⟩, 0, p.z⟩] ++ [⟨⟨0, 0, p.x, 1048576⟩, p.z, p.z + 1⟩] ++ [⟨⟨p.x, 0, p.x + 1, p.y⟩, p.z, p.z + 1⟩])) := Lib.hid (by unfold befL befZ befX befY; rw [if_pos pz, if_pos px, if_pos py]; first | done | rfl)
        rw [HBL.out] at HOF
        have HO := Lib.hid HQ.out.own
        have HPc := Lib.hid (HP.out.below HQ.out.bel)
        have HRc := Lib.hid (HR.out.below HQ.out.bel HR.out.lt)
        have z0 := HPc.out.c0; have z1 := HPc.out.c1; have z2 := HPc.out.c2; have zl := HPc.out.lt
        have u0 := HRc.out.cell0; have u1 := HRc.out.cell1; have u2 := HRc.out.cell2; have u3 := HRc.out.cell3; have ul := HRc.out.lt
        simp only [] at u0 u1 u2 u3
        have hbs := HQ.out.bel.size
        have hb9 : W.heap.size ≤ (W.alloc (.cells #[.int .i64 0, .int .i64 0, .int .i64 1048576, .int .i64 1048576, .int .i64 0, .int .i64 p.z] 58)).heap.size := by first | (simp; done) | (simp; omega)
        go_wp2_with (at_builtin; refine wpList_append_own _ rfl _ _ 26 rfl W.heap.size 58 i9 (.agg #[.int .i64 0, .int .i64 0, .int .i64 0, .int .i64 0, .int .i64 0, .int .i64 0]) 6 48 Tryz.underlying26 hi9 hz0 hz1 hz2 rfl (by decide) _ _ _ rfl (HO.out.alloc _) ⟨W.heap.size, 0, none⟩ 1 1 [.int .i64 0, .int .i64 0, .int .i64 1048576, .int .i64 1048576, .int .i64 0, .int .i64 p.z] rfl rfl (World.news_of_block (cs := #[.int .i64 0, .int .i64 0, .int .i64 1048576, .int .i64 1048576, .int .i64 0, .int .i64 p.z]) (t := 58) (fr := (0, 0)) (heap_alloc_new W _)) (one6 _ _ _ _ _ _) (show 0 + 1 ≤ maxLen from h63_0) (show (0 + 1) * 48 ≤ 140737488355328 from h48_0) hb9 ?_)
        intro v1 wa1 hown hgr _
        replace HQ : Hid (QW v1 (([] : List Bx) ++ [⟨⟨0, 0, 1048576, 1048576⟩, 0, p.z⟩]) W wa1) := Lib.hid ⟨by rw [bxcells_append, List.length_append]; exact hown, Below.grown (HQ.out.bel.alloc hbs _) hgr (by first | (simp; done) | (simp; omega)) (fun k hk => (HO.out.lt k hk).1)⟩
        clear hown hgr HO hb9 z0 z1 z2 zl u0 u1 u2 u3 ul HPc HRc hbs
        have HO := Lib.hid HQ.out.own
        have HPc := Lib.hid (HP.out.below HQ.out.bel)
        have HRc := Lib.hid (HR.out.below HQ.out.bel HR.out.lt)
        have z0 := HPc.out.c0; have z1 := HPc.out.c1; have z2 := HPc.out.c2; have zl := HPc.out.lt
        have u0 := HRc.out.cell0; have u1 := HRc.out.cell1; have u2 := HRc.out.cell2; have u3 := HRc.out.cell3; have ul := HRc.out.lt
        simp only [] at u0 u1 u2 u3
        have hbs := HQ.out.bel.size
        have hb9 : W.heap.size ≤ (wa1.alloc (.cells #[.int .i64 0, .int .i64 0, .int .i64 p.x, .int .i64 1048576, .int .i64 p.z, .int .i64 (p.z + 1)] 58)).heap.size := by first | (simp; done) | (simp; omega)
        go_wp2_with (at_builtin; refine wpList_append_own _ rfl _ _ 26 rfl W.heap.size 58 i9 (.agg #[.int .i64 0, .int .i64 0, .int .i64 0, .int .i64 0, .int .i64 0, .int .i64 0]) 6 48 Tryz.underlying26 hi9 hz0 hz1 hz2 rfl (by decide) _ _ _ rfl (HO.out.alloc _) ⟨wa1.heap.size, 0, none⟩ 1 1 [.int .i64 0, .int .i64 0, .int .i64 p.x, .int .i64 1048576, .int .i64 p.z, .int .i64 (p.z + 1)] rfl rfl (World.news_of_block (cs := #[.int .i64 0, .int .i64 0, .int .i64 p.x, .int .i64 1048576, .int .i64 p.z, .int .i64 (p.z + 1)]) (t := 58) (fr := (0, 0)) (heap_alloc_new wa1 _)) (one6 _ _ _ _ _ _) (show 1 + 1 ≤ maxLen from h63_1) (show (1 + 1) * 48 ≤ 140737488355328 from h48_1) hb9 ?_)
        intro v2 wa2 hown hgr _
        replace HQ : Hid (QW v2 ((([] : List Bx) ++ [⟨⟨0, 0, 1048576, 1048576⟩, 0, p.z⟩]) ++ [⟨⟨0, 0, p.x, 1048576⟩, p.z, p.z + 1⟩]) W wa2) := Lib.hid ⟨by rw [bxcells_append, List.length_append]; exact hown, Below.grown (HQ.out.bel.alloc hbs _) hgr (by first | (simp; done) | (simp; omega)) (fun k hk => (HO.out.lt k hk).1)⟩
        clear hown hgr HO hb9 z0 z1 z2 zl u0 u1 u2 u3 ul HPc HRc hbs
        have HO := Lib.hid HQ.out.own
        have HPc := Lib.hid (HP.out.below HQ.out.bel)
        have HRc := Lib.hid (HR.out.below HQ.out.bel HR.out.lt)
        have z0 := HPc.out.c0; have z1 := HPc.out.c1; have z2 := HPc.out.c2; have zl := HPc.out.lt
        have u0 := HRc.out.cell0; have u1 := HRc.out.cell1; have u2 := HRc.out.cell2; have u3 := HRc.out.cell3; have ul := HRc.out.lt
        simp only [] at u0 u1 u2 u3
        have hbs := HQ.out.bel.size
        have hb9 : W.heap.size ≤ (wa2.alloc (.cells #[.int .i64 p.x, .int .i64 0, .int .i64 (p.x + 1), .int .i64 p.y, .int .i64 p.z, .int .i64 (p.z + 1)] 58)).heap.size := by first | (simp; done) | (simp; omega)
        go_wp2_with (at_builtin; refine wpList_append_own _ rfl _ _ 26 rfl W.heap.size 58 i9 (.agg #[.int .i64 0, .int .i64 0, .int .i64 0, .int .i64 0, .int .i64 0, .int .i64 0]) 6 48 Tryz.underlying26 hi9 hz0 hz1 hz2 rfl (by decide) _ _ _ rfl (HO.out.alloc _) ⟨wa2.heap.size, 0, none⟩ 1 1 [.int .i64 p.x, .int .i64 0, .int .i64 (p.x + 1), .int .i64 p.y, .int .i64 p.z, .int .i64 (p.z + 1)] rfl rfl (World.news_of_block (cs := #[.int .i64 p.x, .int .i64 0, .int .i64 (p.x + 1), .int .i64 p.y, .int .i64 p.z, .int .i64 (p.z + 1)]) (t := 58) (fr := (0, 0)) (heap_alloc_new wa2 _)) (one6 _ _ _ _ _ _) (show 2 + 1 ≤ maxLen from h63_2) (show (2 + 1) * 48 ≤ 140737488355328 from h48_2) hb9 ?_)
        intro v3 wa3 hown hgr _
        replace HQ : Hid (QW v3 ((([] : List Bx) ++ [⟨⟨0, 0, 1048576, 1048576⟩, 0, p.z⟩] ++ [⟨⟨0, 0, p.x, 1048576⟩, p.z, p.z + 1⟩]) ++ [⟨⟨p.x, 0, p.x + 1, p.y⟩, p.z, p.z + 1⟩]) W wa3) := Lib.hid ⟨by rw [bxcells_append, List.length_append]; exact hown, Below.grown (HQ.out.bel.alloc hbs _) hgr (by first | (simp; done) | (simp; omega)) (fun k hk => (HO.out.lt k hk).1)⟩
        clear hown hgr HO hb9 z0 z1 z2 zl u0 u1 u2 u3 ul HPc HRc hbs
        have z0 := (HP.out.below HQ.out.bel).c0; have z1 := (HP.out.below HQ.out.bel).c1; have z2 := (HP.out.below HQ.out.bel).c2; have zl := (HP.out.below HQ.out.bel).lt
        obtain ⟨AQ, cQ, hvq, hrq, _, _⟩ := own_boxes HQ.out.own
        subst hvq
        have HOF2 := Lib.hid (HOF.out wa3 AQ cQ hrq)
        have HB2 := Lib.hid (HWW.out.trans (HQ.out.bel.mono HWW.out.size))
        clear hrq HQ HOF HP HR
        go_wp2_with fail
        refine HOF2.out.mono ?_
        rintro e wo ⟨A5, c5, rfl, hs5, hb⟩
        replace HB2 := Lib.hid (HB2.out.trans (hb.mono HB2.out.size))
        have HC2 := Lib.hid (HCO.out wo HB2.out A5 c5 hs5)
        clear hb hs5 HCO HOF2 z0 z1 z2 zl
        go_wp2_with fail
        refine HC2.out.mono ?_
        rintro e wc ⟨A6, c6, rfl, hs6, hb⟩
        have HS6 := Lib.hid hs6
        replace HB2 := Lib.hid (HB2.out.trans (hb.mono HB2.out.size))
        clear hb hs6 HC2
        go_wp2_with fail
        go_ret2
        exact ⟨A6, c6, rfl, HS6.out, HB2.out⟩
      · skip
        have HBL : Hid (befL p = (([] : List Bx) ++ [⟨⟨0, 0, 1048576, 1048576⟩, 0, p.z⟩] ++ [⟨⟨0, 0, p.x, 1048576⟩, p.z, p.z + 1⟩])) := Lib.hid (by unfold befL befZ befX befY; rw [if_pos pz, if_pos px, if_neg py]; first | done | rfl)
        rw [HBL.out] at HOF
        have HO := Lib.hid HQ.out.own
        have HPc := Lib.hid (HP.out.below HQ.out.bel)
        have HRc := Lib.hid (HR.out.below HQ.out.bel HR.out.lt)
        have z0 := HPc.out.c0; have z1 := HPc.out.c1; have z2 := HPc.out.c2; have zl := HPc.out.lt
        have u0 := HRc.out.cell0; have u1 := HRc.out.cell1; have u2 := HRc.out.cell2; have u3 := HRc.out.cell3; have ul := HRc.out.lt
        simp only [] at u0 u1 u2 u3
        have hbs := HQ.out.bel.size
        have hb9 : W.heap.size ≤ (W.alloc (.cells #[.int .i64 0, .int .i64 0, .int .i64 1048576, .int .i64 1048576, .int .i64 0, .int .i64 p.z] 58)).heap.size := by first | (simp; done) | (simp; omega)
        go_wp2_with (at_builtin; refine wpList_append_own _ rfl _ _ 26 rfl W.heap.size 58 i9 (.agg #[.int .i64 0, .int .i64 0, .int .i64 0, .int .i64 0, .int .i64 0, .int .i64 0]) 6 48 Tryz.underlying26 hi9 hz0 hz1 hz2 rfl (by decide) _ _ _ rfl (HO.out.alloc _) ⟨W.heap.size, 0, none⟩ 1 1 [.int .i64 0, .int .i64 0, .int .i64 1048576, .int .i64 1048576, .int .i64 0, .int .i64 p.z] rfl rfl (World.news_of_block (cs := #[.int .i64 0, .int .i64 0, .int .i64 1048576, .int .i64 1048576, .int .i64 0, .int .i64 p.z]) (t := 58) (fr := (0, 0)) (heap_alloc_new W _)) (one6 _ _ _ _ _ _) (show 0 + 1 ≤ maxLen from h63_0) (show (0 + 1) * 48 ≤ 140737488355328 from h48_0) hb9 ?_)
        intro v1 wa1 hown hgr _
        replace HQ : Hid (QW v1 (([] : List Bx) ++ [⟨⟨0, 0, 1048576, 1048576⟩, 0, p.z⟩]) W wa1) := Lib.hid ⟨by rw [bxcells_append, List.length_append]; exact hown, Below.grown (HQ.out.bel.alloc hbs _) hgr (by first | (simp; done) | (simp; omega)) (fun k hk => (HO.out.lt k hk).1)⟩
        clear hown hgr HO hb9 z0 z1 z2 zl u0 u1 u2 u3 ul HPc HRc hbs
        have HO := Lib.hid HQ.out.own
        have HPc := Lib.hid (HP.out.below HQ.out.bel)
        have HRc := Lib.hid (HR.out.below HQ.out.bel HR.out.lt)
        have z0 := HPc.out.c0; have z1 := HPc.out.c1; have z2 := HPc.out.c2; have zl := HPc.out.lt
        have u0 := HRc.out.cell0; have u1 := HRc.out.cell1; have u2 := HRc.out.cell2; have u3 := HRc.out.cell3; have ul := HRc.out.lt
        simp only [] at u0 u1 u2 u3
        have hbs := HQ.out.bel.size
        have hb9 : W.heap.size ≤ (wa1.alloc (.cells #[.int .i64 0, .int .i64 0, .int .i64 p.x, .int .i64 1048576, .int .i64 p.z, .int .i64 (p.z + 1)] 58)).heap.size := by first | (simp; done) | (simp; omega)
        go_wp2_with (at_builtin; refine wpList_append_own _ rfl _ _ 26 rfl W.heap.size 58 i9 (.agg #[.int .i64 0, .int .i64 0, .int .i64 0, .int .i64 0, .int .i64 0, .int .i64 0]) 6 48 Tryz.underlying26 hi9 hz0 hz1 hz2 rfl (by decide) _ _ _ rfl (HO.out.alloc _) ⟨wa1.heap.size, 0, none⟩ 1 1 [.int .i64 0, .int .i64 0, .int .i64 p.x, .int .i64 1048576, .int .i64 p.z, .int .i64 (p.z + 1)] rfl rfl (World.news_of_block (cs := #[.int .i64 0, .int .i64 0, .int .i64 p.x, .int .i64 1048576, .int .i64 p.z, .int .i64 (p.z + 1)]) (t := 58) (fr := (0, 0)) (heap_alloc_new wa1 _)) (one6 _ _ _ _ _ _) (show 1 + 1 ≤ maxLen from h63_1) (show (1 + 1) * 48 ≤ 140737488355328 from h48_1) hb9 ?_)
        intro v2 wa2 hown hgr _
        replace HQ : Hid (QW v2 ((([] : List Bx) ++ [⟨⟨0, 0, 1048576, 1048576⟩, 0, p.z⟩]) ++ [⟨⟨0, 0, p.x, 1048576⟩, p.z, p.z + 1⟩]) W wa2) := Lib.hid ⟨by rw [bxcells_append, List.length_append]; exact hown, Below.grown (HQ.out.bel.alloc hbs _) hgr (by first | (simp; done) | (simp; omega)) (fun k hk => (HO.out.lt k hk).1)⟩
        clear hown hgr HO hb9 z0 z1 z2 zl u0 u1 u2 u3 ul HPc HRc hbs
        have z0 := (HP.out.below HQ.out.bel).c0; have z1 := (HP.out.below HQ.out.bel).c1; have z2 := (HP.out.below HQ.out.bel).c2; have zl := (HP.out.below HQ.out.bel).lt
        obtain ⟨AQ, cQ, hvq, hrq, _, _⟩ := own_boxes HQ.out.own
        subst hvq
        have HOF2 := Lib.hid (HOF.out wa2 AQ cQ hrq)
        have HB2 := Lib.hid (HWW.out.trans (HQ.out.bel.mono HWW.out.size))
        clear hrq HQ HOF HP HR
        go_wp2_with fail
        refine HOF2.out.mono ?_
        rintro e wo ⟨A5, c5, rfl, hs5, hb⟩
        replace HB2 := Lib.hid (HB2.out.trans (hb.mono HB2.out.size))
        have HC2 := Lib.hid (HCO.out wo HB2.out A5 c5 hs5)
        clear hb hs5 HCO HOF2 z0 z1 z2 zl
        go_wp2_with fail
        refine HC2.out.mono ?_
        rintro e wc ⟨A6, c6, rfl, hs6, hb⟩
        have HS6 := Lib.hid hs6
        replace HB2 := Lib.hid (HB2.out.trans (hb.mono HB2.out.size))
        clear hb hs6 HC2
        go_wp2_with fail
        go_ret2
        exact ⟨A6, c6, rfl, HS6.out, HB2.out⟩
    · skip
      by_cases py : 0 < p.y
      · skip
        have HBL : Hid (befL p = (([] : List Bx) ++ [⟨⟨0, 0, 1048576, 1048576⟩, 0, p.z⟩] ++ [⟨⟨p.x, 0, p.x + 1, p.y⟩, p.z, p.z + 1⟩])) := Lib.hid (by unfold befL befZ befX befY; rw [if_pos pz, if_neg px, if_pos py]; first | done | rfl)
        rw [HBL.out] at HOF
        have HO := Lib.hid HQ.out.own
        have HPc := Lib.hid (HP.out.below HQ.out.bel)
        have HRc := Lib.hid (HR.out.below HQ.out.bel HR.out.lt)
        have z0 := HPc.out.c0; have z1 := HPc.out.c1; have z2 := HPc.out.c2; have zl := HPc.out.lt
        have u0 := HRc.out.cell0; have u1 := HRc.out.cell1; have u2 := HRc.out.cell2; have u3 := HRc.out.cell3; have ul := HRc.out.lt
        simp only [] at u0 u1 u2 u3
        have hbs := HQ.out.bel.size
        have hb9 : W.heap.size ≤ (W.alloc (.cells #[.int .i64 0, .int .i64 0, .int .i64 1048576, .int .i64 1048576, .int .i64 0, .int .i64 p.z] 58)).heap.size := by first | (simp; done) | (simp; omega)
        go_wp2_with (at_builtin; refine wpList_append_own _ rfl _ _ 26 rfl W.heap.size 58 i9 (.agg #[.int .i64 0, .int .i64 0, .int .i64 0, .int .i64 0, .int .i64 0, .int .i64 0]) 6 48 Tryz.underlying26 hi9 hz0 hz1 hz2 rfl (by decide) _ _ _ rfl (HO.out.alloc _) ⟨W.heap.size, 0, none⟩ 1 1 [.int .i64 0, .int .i64 0, .int .i64 1048576, .int .i64 1048576, .int .i64 0, .int .i64 p.z] rfl rfl (World.news_of_block (cs := #[.int .i64 0, .int .i64 0, .int .i64 1048576, .int .i64 1048576, .int .i64 0, .int .i64 p.z]) (t := 58) (fr := (0, 0)) (heap_alloc_new W _)) (one6 _ _ _ _ _ _) (show 0 + 1 ≤ maxLen from h63_0) (show (0 + 1) * 48 ≤ 140737488355328 from h48_0) hb9 ?_)
        intro v1 wa1 hown hgr _
        replace HQ : Hid (QW v1 (([] : List Bx) ++ [⟨⟨0, 0, 1048576, 1048576⟩, 0, p.z⟩]) W wa1) := Lib.hid ⟨by rw [bxcells_append, List.length_append]; exact hown, Below.grown (HQ.out.bel.alloc hbs _) hgr (by first | (simp; done) | (simp; omega)) (fun k hk => (HO.out.lt k hk).1)⟩
        clear hown hgr HO hb9 z0 z1 z2 zl u0 u1 u2 u3 ul HPc HRc hbs
        have HO := Lib.hid HQ.out.own
        have HPc := Lib.hid (HP.out.below HQ.out.bel)
        have HRc := Lib.hid (HR.out.below HQ.out.bel HR.out.lt)
        have z0 := HPc.out.c0; have z1 := HPc.out.c1; have z2 := HPc.out.c2; have zl := HPc.out.lt
        have u0 := HRc.out.cell0; have u1 := HRc.out.cell1; have u2 := HRc.out.cell2; have u3 := HRc.out.cell3; have ul := HRc.out.lt
        simp only [] at u0 u1 u2 u3
        have hbs := HQ.out.bel.size
        have hb9 : W.heap.size ≤ (wa1.alloc (.cells #[.int .i64 p.x, .int .i64 0, .int .i64 (p.x + 1), .int .i64 p.y, .int .i64 p.z, .int .i64 (p.z + 1)] 58)).heap.size := by first | (simp; done) | (simp; omega)
        go_wp2_with (at_builtin; refine wpList_append_own _ rfl _ _ 26 rfl W.heap.size 58 i9 (.agg #[.int .i64 0, .int .i64 0, .int .i64 0, .int .i64 0, .int .i64 0, .int .i64 0]) 6 48 Tryz.underlying26 hi9 hz0 hz1 hz2 rfl (by decide) _ _ _ rfl (HO.out.alloc _) ⟨wa1.heap.size, 0, none⟩ 1 1 [.int .i64 p.x, .int .i64 0, .int .i64 (p.x + 1), .int .i64 p.y, .int .i64 p.z, .int .i64 (p.z + 1)] rfl rfl (World.news_of_block (cs := #[.int .i64 p.x, .int .i64 0, .int .i64 (p.x + 1), .int .i64 p.y, .int .i64 p.z, .int .i64 (p.z + 1)]) (t := 58) (fr := (0, 0)) (heap_alloc_new wa1 _)) (one6 _ _ _ _ _ _) (show 1 + 1 ≤ maxLen from h63_1) (show (1 + 1) * 48 ≤ 140737488355328 from h48_1) hb9 ?_)
        intro v2 wa2 hown hgr _
        replace HQ : Hid (QW v2 ((([] : List Bx) ++ [⟨⟨0, 0, 1048576, 1048576⟩, 0, p.z⟩]) ++ [⟨⟨p.x, 0, p.x + 1, p.y⟩, p.z, p.z + 1⟩]) W wa2) := Lib.hid ⟨by rw [bxcells_append, List.length_append]; exact hown, Below.grown (HQ.out.bel.alloc hbs _) hgr (by first | (simp; done) | (simp; omega)) (fun k hk => (HO.out.lt k hk).1)⟩
        clear hown hgr HO hb9 z0 z1 z2 zl u0 u1 u2 u3 ul HPc HRc hbs
        have z0 := (HP.out.below HQ.out.bel).c0; have z1 := (HP.out.below HQ.out.bel).c1; have z2 := (HP.out.below HQ.out.bel).c2; have zl := (HP.out.below HQ.out.bel).lt
        obtain ⟨AQ, cQ, hvq, hrq, _, _⟩ := own_boxes HQ.out.own
        subst hvq
        have HOF2 := Lib.hid (HOF.out wa2 AQ cQ hrq)
        have HB2 := Lib.hid (HWW.out.trans (HQ.out.bel.mono HWW.out.size))
        clear hrq HQ HOF HP HR
        go_wp2_with fail
        refine HOF2.out.mono ?_
        rintro e wo ⟨A5, c5, rfl, hs5, hb⟩
        replace HB2 := Lib.hid (HB2.out.trans (hb.mono HB2.out.size))
        have HC2 := Lib.hid (HCO.out wo HB2.out A5 c5 hs5)
        clear hb hs5 HCO HOF2 z0 z1 z2 zl
        go_wp2_with fail
        refine HC2.out.mono ?_
        rintro e wc ⟨A6, c6, rfl, hs6, hb⟩
        have HS6 := Lib.hid hs6
        replace HB2 := Lib.hid (HB2.out.trans (hb.mono HB2.out.size))
        clear hb hs6 HC2
        go_wp2_with fail
        go_ret2
        exact ⟨A6, c6, rfl, HS6.out, HB2.out⟩
      · skip
        have HBL : Hid (befL p = (([] : List Bx) ++ [⟨⟨0, 0, 1048576, 1048576⟩, 0, p.z⟩])) := Lib.hid (by unfold befL befZ befX befY; rw [if_pos pz, if_neg px, if_neg py]; first | done | rfl)
        rw [HBL.out] at HOF
        have HO := Lib.hid HQ.out.own
        have HPc := Lib.hid (HP.out.below HQ.out.bel)
        have HRc := Lib.hid (HR.out.below HQ.out.bel HR.out.lt)
        have z0 := HPc.out.c0; have z1 := HPc.out.c1; have z2 := HPc.out.c2; have zl := HPc.out.lt
        have u0 := HRc.out.cell0; have u1 := HRc.out.cell1; have u2 := HRc.out.cell2; have u3 := HRc.out.cell3; have ul := HRc.out.lt
        simp only [] at u0 u1 u2 u3
        have hbs := HQ.out.bel.size
        have hb9 : W.heap.size ≤ (W.alloc (.cells #[.int .i64 0, .int .i64 0, .int .i64 1048576, .int .i64 1048576, .int .i64 0, .int .i64 p.z] 58)).heap.size := by first | (simp; done) | (simp; omega)
        go_wp2_with (at_builtin; refine wpList_append_own _ rfl _ _ 26 rfl W.heap.size 58 i9 (.agg #[.int .i64 0, .int .i64 0, .int .i64 0, .int .i64 0, .int .i64 0, .int .i64 0]) 6 48 Tryz.underlying26 hi9 hz0 hz1 hz2 rfl (by decide) _ _ _ rfl (HO.out.alloc _) ⟨W.heap.size, 0, none⟩ 1 1 [.int .i64 0, .int .i64 0, .int .i64 1048576, .int .i64 1048576, .int .i64 0, .int .i64 p.z] rfl rfl (World.news_of_block (cs := #[.int .i64 0, .int .i64 0, .int .i64 1048576, .int .i64 1048576, .int .i64 0, .int .i64 p.z]) (t := 58) (fr := (0, 0)) (heap_alloc_new W _)) (one6 _ _ _ _ _ _) (show 0 + 1 ≤ maxLen from h63_0) (show (0 + 1) * 48 ≤ 140737488355328 from h48_0) hb9 ?_)
        intro v1 wa1 hown hgr _
        replace HQ : Hid (QW v1 (([] : List Bx) ++ [⟨⟨0, 0, 1048576, 1048576⟩, 0, p.z⟩]) W wa1) := Lib.hid ⟨by rw [bxcells_append, List.length_append]; exact hown, Below.grown (HQ.out.bel.alloc hbs _) hgr (by first | (simp; done) | (simp; omega)) (fun k hk => (HO.out.lt k hk).1)⟩
        clear hown hgr HO hb9 z0 z1 z2 zl u0 u1 u2 u3 ul HPc HRc hbs
        have z0 := (HP.out.below HQ.out.bel).c0; have z1 := (HP.out.below HQ.out.bel).c1; have z2 := (HP.out.below HQ.out.bel).c2; have zl := (HP.out.below HQ.out.bel).lt
        obtain ⟨AQ, cQ, hvq, hrq, _, _⟩ := own_boxes HQ.out.own
        subst hvq
        have HOF2 := Lib.hid (HOF.out wa1 AQ cQ hrq)
        have HB2 := Lib.hid (HWW.out.trans (HQ.out.bel.mono HWW.out.size))
        clear hrq HQ HOF HP HR
        go_wp2_with fail
        refine HOF2.out.mono ?_
        rintro e wo ⟨A5, c5, rfl, hs5, hb⟩
        replace HB2 := Lib.hid (HB2.out.trans (hb.mono HB2.out.size))
        have HC2 := Lib.hid (HCO.out wo HB2.out A5 c5 hs5)
        clear hb hs5 HCO HOF2 z0 z1 z2 zl
        go_wp2_with fail
        refine HC2.out.mono ?_
        rintro e wc ⟨A6, c6, rfl, hs6, hb⟩
        have HS6 := Lib.hid hs6
        replace HB2 := Lib.hid (HB2.out.trans (hb.mono HB2.out.size))
        clear hb hs6 HC2
        go_wp2_with fail
        go_ret2
        exact ⟨A6, c6, rfl, HS6.out, HB2.out⟩
  · skip
    by_cases px : 0 < p.x
    · skip
      by_cases py : 0 < p.y
      · skip
        have HBL : Hid (befL p = (([] : List Bx) ++ [⟨⟨0, 0, p.x, 1048576⟩, p.z, p.z + 1⟩] ++ [⟨⟨p.x, 0, p.x + 1, p.y⟩, p.z, p.z + 1⟩])) := Lib.hid (by unfold befL befZ befX befY; rw [if_neg pz, if_pos px, if_pos py]; first | done | rfl)
        rw [HBL.out] at HOF
        have HO := Lib.hid HQ.out.own
        have HPc := Lib.hid (HP.out.below HQ.out.bel)
        have HRc := Lib.hid (HR.out.below HQ.out.bel HR.out.lt)
        have z0 := HPc.out.c0; have z1 := HPc.out.c1; have z2 := HPc.out.c2; have zl := HPc.out.lt
        have u0 := HRc.out.cell0; have u1 := HRc.out.cell1; have u2 := HRc.out.cell2; have u3 := HRc.out.cell3; have ul := HRc.out.lt
        simp only [] at u0 u1 u2 u3
        have hbs := HQ.out.bel.size
        have hb9 : W.heap.size ≤ (W.alloc (.cells #[.int .i64 0, .int .i64 0, .int .i64 p.x, .int .i64 1048576, .int .i64 p.z, .int .i64 (p.z + 1)] 58)).heap.size := by first | (simp; done) | (simp; omega)
        go_wp2_with (at_builtin; refine wpList_append_own _ rfl _ _ 26 rfl W.heap.size 58 i9 (.agg #[.int .i64 0, .int .i64 0, .int .i64 0, .int .i64 0, .int .i64 0, .int .i64 0]) 6 48 Tryz.underlying26 hi9 hz0 hz1 hz2 rfl (by decide) _ _ _ rfl (HO.out.alloc _) ⟨W.heap.size, 0, none⟩ 1 1 [.int .i64 0, .int .i64 0, .int .i64 p.x, .int .i64 1048576, .int .i64 p.z, .int .i64 (p.z + 1)] rfl rfl (World.news_of_block (cs := #[.int .i64 0, .int .i64 0, .int .i64 p.x, .int .i64 1048576, .int .i64 p.z, .int .i64 (p.z + 1)]) (t := 58) (fr := (0, 0)) (heap_alloc_new W _)) (one6 _ _ _ _ _ _) (show 0 + 1 ≤ maxLen from h63_0) (show (0 + 1) * 48 ≤ 140737488355328 from h48_0) hb9 ?_)
        intro v1 wa1 hown hgr _
        replace HQ : Hid (QW v1 (([] : List Bx) ++ [⟨⟨0, 0, p.x, 1048576⟩, p.z, p.z + 1⟩]) W wa1) := Lib.hid ⟨by rw [bxcells_append, List.length_append]; exact hown, Below.grown (HQ.out.bel.alloc hbs _) hgr (by first | (simp; done) | (simp; omega)) (fun k hk => (HO.out.lt k hk).1)⟩
        clear hown hgr HO hb9 z0 z1 z2 zl u0 u1 u2 u3 ul HPc HRc hbs
        have HO := Lib.hid HQ.out.own
        have HPc := Lib.hid (HP.out.below HQ.out.bel)
        have HRc := Lib.hid (HR.out.below HQ.out.bel HR.out.lt)
        have z0 := HPc.out.c0; have z1 := HPc.out.c1; have z2 := HPc.out.c2; have zl := HPc.out.lt
        have u0 := HRc.out.cell0; have u1 := HRc.out.cell1; have u2 := HRc.out.cell2; have u3 := HRc.out.cell3; have ul := HRc.out.lt
        simp only [] at u0 u1 u2 u3
        have hbs := HQ.out.bel.size
        have hb9 : W.heap.size ≤ (wa1.alloc (.cells #[.int .i64 p.x, .int .i64 0, .int .i64 (p.x + 1), .int .i64 p.y, .int .i64 p.z, .int .i64 (p.z + 1)] 58)).heap.size := by first | (simp; done) | (simp; omega)
        go_wp2_with (at_builtin; refine wpList_append_own _ rfl _ _ 26 rfl W.heap.size 58 i9 (.agg #[.int .i64 0, .int .i64 0, .int .i64 0, .int .i64 0, .int .i64 0, .int .i64 0]) 6 48 Tryz.underlying26 hi9 hz0 hz1 hz2 rfl (by decide) _ _ _ rfl (HO.out.alloc _) ⟨wa1.heap.size, 0, none⟩ 1 1 [.int .i64 p.x, .int .i64 0, .int .i64 (p.x + 1), .int .i64 p.y, .int .i64 p.z, .int .i64 (p.z + 1)] rfl rfl (World.news_of_block (cs := #[.int .i64 p.x, .int .i64 0, .int .i64 (p.x + 1), .int .i64 p.y, .int .i64 p.z, .int .i64 (p.z + 1)]) (t := 58) (fr := (0, 0)) (heap_alloc_new wa1 _)) (one6 _ _ _ _ _ _) (show 1 + 1 ≤ maxLen from h63_1) (show (1 + 1) * 48 ≤ 140737488355328 from h48_1) hb9 ?_)
        intro v2 wa2 hown hgr _
        replace HQ : Hid (QW v2 ((([] : List Bx) ++ [⟨⟨0, 0, p.x, 1048576⟩, p.z, p.z + 1⟩]) ++ [⟨⟨p.x, 0, p.x + 1, p.y⟩, p.z, p.z + 1⟩]) W wa2) := Lib.hid ⟨by rw [bxcells_append, List.length_append]; exact hown, Below.grown (HQ.out.bel.alloc hbs _) hgr (by first | (simp; done) | (simp; omega)) (fun k hk => (HO.out.lt k hk).1)⟩
        clear hown hgr HO hb9 z0 z1 z2 zl u0 u1 u2 u3 ul HPc HRc hbs
        have z0 := (HP.out.below HQ.out.bel).c0; have z1 := (HP.out.below HQ.out.bel).c1; have z2 := (HP.out.below HQ.out.bel).c2; have zl := (HP.out.below HQ.out.bel).lt
        obtain ⟨AQ, cQ, hvq, hrq, _, _⟩ := own_boxes HQ.out.own
        subst hvq
        have HOF2 := Lib.hid (HOF.out wa2 AQ cQ hrq)
        have HB2 := Lib.hid (HWW.out.trans (HQ.out.bel.mono HWW.out.size))
        clear hrq HQ HOF HP HR
        go_wp2_with fail
        refine HOF2.out.mono ?_
        rintro e wo ⟨A5, c5, rfl, hs5, hb⟩
        replace HB2 := Lib.hid (HB2.out.trans (hb.mono HB2.out.size))
        have HC2 := Lib.hid (HCO.out wo HB2.out A5 c5 hs5)
        clear hb hs5 HCO HOF2 z0 z1 z2 zl
        go_wp2_with fail
        refine HC2.out.mono ?_
        rintro e wc ⟨A6, c6, rfl, hs6, hb⟩
        have HS6 := Lib.hid hs6
        replace HB2 := Lib.hid (HB2.out.trans (hb.mono HB2.out.size))
        clear hb hs6 HC2
        go_wp2_with fail
        go_ret2
        exact ⟨A6, c6, rfl, HS6.out, HB2.out⟩
      · skip
        have HBL : Hid (befL p = (([] : List Bx) ++ [⟨⟨0, 0, p.x, 1048576⟩, p.z, p.z + 1⟩])) := Lib.hid (by unfold befL befZ befX befY; rw [if_neg pz, if_pos px, if_neg py]; first | done | rfl)
        rw [HBL.out] at HOF
        have HO := Lib.hid HQ.out.own
        have HPc := Lib.hid (HP.out.below HQ.out.bel)
        have HRc := Lib.hid (HR.out.below HQ.out.bel HR.out.lt)
        have z0 := HPc.out.c0; have z1 := HPc.out.c1; have z2 := HPc.out.c2; have zl := HPc.out.lt
        have u0 := HRc.out.cell0; have u1 := HRc.out.cell1; have u2 := HRc.out.cell2; have u3 := HRc.out.cell3; have ul := HRc.out.lt
        simp only [] at u0 u1 u2 u3
        have hbs := HQ.out.bel.size
        have hb9 : W.heap.size ≤ (W.alloc (.cells #[.int .i64 0, .int .i64 0, .int .i64 p.x, .int .i64 1048576, .int .i64 p.z, .int .i64 (p.z + 1)] 58)).heap.size := by first | (simp; done) | (simp; omega)
        go_wp2_with (at_builtin; refine wpList_append_own _ rfl _ _ 26 rfl W.heap.size 58 i9 (.agg #[.int .i64 0, .int .i64 0, .int .i64 0, .int .i64 0, .int .i64 0, .int .i64 0]) 6 48 Tryz.underlying26 hi9 hz0 hz1 hz2 rfl (by decide) _ _ _ rfl (HO.out.alloc _) ⟨W.heap.size, 0, none⟩ 1 1 [.int .i64 0, .int .i64 0, .int .i64 p.x, .int .i64 1048576, .int .i64 p.z, .int .i64 (p.z + 1)] rfl rfl (World.news_of_block (cs := #[.int .i64 0, .int .i64 0, .int .i64 p.x, .int .i64 1048576, .int .i64 p.z, .int .i64 (p.z + 1)]) (t := 58) (fr := (0, 0)) (heap_alloc_new W _)) (one6 _ _ _ _ _ _) (show 0 + 1 ≤ maxLen from h63_0) (show (0 + 1) * 48 ≤ 140737488355328 from h48_0) hb9 ?_)
        intro v1 wa1 hown hgr _
        replace HQ : Hid (QW v1 (([] : List Bx) ++ [⟨⟨0, 0, p.x, 1048576⟩, p.z, p.z + 1⟩]) W wa1) := Lib.hid ⟨by rw [bxcells_append, List.length_append]; exact hown, Below.grown (HQ.out.bel.alloc hbs _) hgr (by first | (simp; done) | (simp; omega)) (fun k hk => (HO.out.lt k hk).1)⟩
        clear hown hgr HO hb9 z0 z1 z2 zl u0 u1 u2 u3 ul HPc HRc hbs
        have z0 := (HP.out.below HQ.out.bel).c0; have z1 := (HP.out.below HQ.out.bel).c1; have z2 := (HP.out.below HQ.out.bel).c2; have zl := (HP.out.below HQ.out.bel).lt
        obtain ⟨AQ, cQ, hvq, hrq, _, _⟩ := own_boxes HQ.out.own
        subst hvq
        have HOF2 := Lib.hid (HOF.out wa1 AQ cQ hrq)
        have HB2 := Lib.hid (HWW.out.trans (HQ.out.bel.mono HWW.out.size))
        clear hrq HQ HOF HP HR
        go_wp2_with fail
        refine HOF2.out.mono ?_
        rintro e wo ⟨A5, c5, rfl, hs5, hb⟩
        replace HB2 := Lib.hid (HB2.out.trans (hb.mono HB2.out.size))
        have HC2 := Lib.hid (HCO.out wo HB2.out A5 c5 hs5)
        clear hb hs5 HCO HOF2 z0 z1 z2 zl
        go_wp2_with fail
        refine HC2.out.mono ?_
        rintro e wc ⟨A6, c6, rfl, hs6, hb⟩
        have HS6 := Lib.hid hs6
        replace HB2 := Lib.hid (HB2.out.trans (hb.mono HB2.out.size))
        clear hb hs6 HC2
        go_wp2_with fail
        go_ret2
        exact ⟨A6, c6, rfl, HS6.out, HB2.out⟩
    · skip
      by_cases py : 0 < p.y
      · skip
        have HBL : Hid (befL p = (([] : List Bx) ++ [⟨⟨p.x, 0, p.x + 1, p.y⟩, p.z, p.z + 1⟩])) := Lib.hid (by unfold befL befZ befX befY; rw [if_neg pz, if_neg px, if_pos py]; first | done | rfl)
        rw [HBL.out] at HOF
        have HO := Lib.hid HQ.out.own
        have HPc := Lib.hid (HP.out.below HQ.out.bel)
        have HRc := Lib.hid (HR.out.below HQ.out.bel HR.out.lt)
        have z0 := HPc.out.c0; have z1 := HPc.out.c1; have z2 := HPc.out.c2; have zl := HPc.out.lt
        have u0 := HRc.out.cell0; have u1 := HRc.out.cell1; have u2 := HRc.out.cell2; have u3 := HRc.out.cell3; have ul := HRc.out.lt
        simp only [] at u0 u1 u2 u3
        have hbs := HQ.out.bel.size
        have hb9 : W.heap.size ≤ (W.alloc (.cells #[.int .i64 p.x, .int .i64 0, .int .i64 (p.x + 1), .int .i64 p.y, .int .i64 p.z, .int .i64 (p.z + 1)] 58)).heap.size := by first | (simp; done) | (simp; omega)
        go_wp2_with (at_builtin; refine wpList_append_own _ rfl _ _ 26 rfl W.heap.size 58 i9 (.agg #[.int .i64 0, .int .i64 0, .int .i64 0, .int .i64 0, .int .i64 0, .int .i64 0]) 6 48 Tryz.underlying26 hi9 hz0 hz1 hz2 rfl (by decide) _ _ _ rfl (HO.out.alloc _) ⟨W.heap.size, 0, none⟩ 1 1 [.int .i64 p.x, .int .i64 0, .int .i64 (p.x + 1), .int .i64 p.y, .int .i64 p.z, .int .i64 (p.z + 1)] rfl rfl (World.news_of_block (cs := #[.int .i64 p.x, .int .i64 0, .int .i64 (p.x + 1), .int .i64 p.y, .int .i64 p.z, .int .i64 (p.z + 1)]) (t := 58) (fr := (0, 0)) (heap_alloc_new W _)) (one6 _ _ _ _ _ _) (show 0 + 1 ≤ maxLen from h63_0) (show (0 + 1) * 48 ≤ 140737488355328 from h48_0) hb9 ?_)
        intro v1 wa1 hown hgr _
        replace HQ : Hid (QW v1 (([] : List Bx) ++ [⟨⟨p.x, 0, p.x + 1, p.y⟩, p.z, p.z + 1⟩]) W wa1) := Lib.hid ⟨by rw [bxcells_append, List.length_append]; exact hown, Below.grown (HQ.out.bel.alloc hbs _) hgr (by first | (simp; done) | (simp; omega)) (fun k hk => (HO.out.lt k hk).1)⟩
        clear hown hgr HO hb9 z0 z1 z2 zl u0 u1 u2 u3 ul HPc HRc hbs
        have z0 := (HP.out.below HQ.out.bel).c0; have z1 := (HP.out.below HQ.out.bel).c1; have z2 := (HP.out.below HQ.out.bel).c2; have zl := (HP.out.below HQ.out.bel).lt
        obtain ⟨AQ, cQ, hvq, hrq, _, _⟩ := own_boxes HQ.out.own
        subst hvq
        have HOF2 := Lib.hid (HOF.out wa1 AQ cQ hrq)
        have HB2 := Lib.hid (HWW.out.trans (HQ.out.bel.mono HWW.out.size))
        clear hrq HQ HOF HP HR
        go_wp2_with fail
        refine HOF2.out.mono ?_
        rintro e wo ⟨A5, c5, rfl, hs5, hb⟩
        replace HB2 := Lib.hid (HB2.out.trans (hb.mono HB2.out.size))
        have HC2 := Lib.hid (HCO.out wo HB2.out A5 c5 hs5)
        clear hb hs5 HCO HOF2 z0 z1 z2 zl
        go_wp2_with fail
        refine HC2.out.mono ?_
        rintro e wc ⟨A6, c6, rfl, hs6, hb⟩
        have HS6 := Lib.hid hs6
        replace HB2 := Lib.hid (HB2.out.trans (hb.mono HB2.out.size))
        clear hb hs6 HC2
        go_wp2_with fail
        go_ret2
        exact ⟨A6, c6, rfl, HS6.out, HB2.out⟩
      · skip
        have HBL : Hid (befL p = ([] : List Bx)) := Lib.hid (by unfold befL befZ befX befY; rw [if_neg pz, if_neg px, if_neg py]; rfl)
        rw [HBL.out] at HOF
        have z0 := (HP.out.below HQ.out.bel).c0; have z1 := (HP.out.below HQ.out.bel).c1; have z2 := (HP.out.below HQ.out.bel).c2; have zl := (HP.out.below HQ.out.bel).lt
        obtain ⟨AQ, cQ, hvq, hrq, _, _⟩ := own_boxes HQ.out.own
        subst hvq
        have HOF2 := Lib.hid (HOF.out W AQ cQ hrq)
        have HB2 := Lib.hid (HWW.out.trans (HQ.out.bel.mono HWW.out.size))
        clear hrq HQ HOF HP HR
        go_wp2_with fail
        refine HOF2.out.mono ?_
        rintro e wo ⟨A5, c5, rfl, hs5, hb⟩
        replace HB2 := Lib.hid (HB2.out.trans (hb.mono HB2.out.size))
        have HC2 := Lib.hid (HCO.out wo HB2.out A5 c5 hs5)
        clear hb hs5 HCO HOF2 z0 z1 z2 zl
        go_wp2_with fail
        refine HC2.out.mono ?_
        rintro e wc ⟨A6, c6, rfl, hs6, hb⟩
        have HS6 := Lib.hid hs6
        replace HB2 := Lib.hid (HB2.out.trans (hb.mono HB2.out.size))
        clear hb hs6 HC2
        go_wp2_with fail
        go_ret2
        exact ⟨A6, c6, rfl, HS6.out, HB2.out⟩
set_option maxHeartbeats 40000000 in
theorem firsts_many (r : Rc) (A : Option Addr) (cap : Nat) (l : List Pl) (A2 : Option Addr) (c2 : Nat) (s : List Bx) (w : World) (hn : ¬ (l.length ≤ 12 ∧ s.length ≤ 12)) :
    Calls Tryz.prog 6 #[.agg #[.int .i64 r.X0, .int .i64 r.Y0, .int .i64 r.X1, .int .i64 r.Y1], .slice A l.length cap, .slice A2 s.length c2] w (BlIs true w) := by
  have HB : Hid (Below w.heap.size w (w.alloc (.cells #[.int .i64 r.X0, .int .i64 r.Y0, .int .i64 r.X1, .int .i64 r.Y1] 33))) := Lib.hid ((Below.refl _ _).alloc (Nat.le_refl _) _)
  have HSM := Lib.hid (fun w' => msmall_any w')
  have HFW := Lib.hid (fun w' => mfew_any A cap l A2 c2 s w')
  rw [decide_eq_false hn] at HFW
  go_enter Tryz.func6, Tryz.ntmps6
  go_wp2_with fail
  generalize World.alloc w _ = w0 at *
  refine (HSM.out _).mono ?_
  rintro e w1 ⟨rfl, hb⟩
  have HB1 := Lib.hid (HB.out.trans (hb.mono HB.out.size)); clear hb HB
  go_wp2_with fail
  refine (HFW.out _).mono ?_
  rintro e w2 ⟨rfl, hb⟩
  have HB2 := Lib.hid (HB1.out.trans (hb.mono HB1.out.size)); clear hb HB1
  go_wp2_with fail
  go_ret
  exact ⟨rfl, HB2.out⟩
set_option maxHeartbeats 40000000 in
theorem firsts_arg (r : Rc) (A : Option Addr) (cap : Nat) (l : List Pl) (A2 : Option Addr) (c2 : Nat) (s : List Bx) (w : World) (hl : PlIn w A cap l) (hn : l.length ≤ 12 ∧ s.length ≤ 12) (hc : ¬ ArgOk r l) :
    Calls Tryz.prog 6 #[.agg #[.int .i64 r.X0, .int .i64 r.Y0, .int .i64 r.X1, .int .i64 r.Y1], .slice A l.length cap, .slice A2 s.length c2] w (BlIs true w) := by
  have K := Lib.hid (LK.start (r := r) hl)
  have HSM := Lib.hid (fun w' => msmall_any w')
  have HFW := Lib.hid (fun w' => mfew_any A cap l A2 c2 s w')
  rw [decide_eq_true hn] at HFW
  have HV := Lib.hid (fun w' (h : Below w.heap.size w w') => show Calls Tryz.prog 29 #[.agg #[.int .i64 r.X0, .int .i64 r.Y0, .int .i64 r.X1, .int .i64 r.Y1], .slice A l.length cap] w' (BlIs false w') from by
    have h1 := mvalid_any r A cap l w' (hl.below h)
    rw [decide_eq_false hc] at h1; exact h1)
  clear hl hn
  go_enter Tryz.func6, Tryz.ntmps6
  go_wp2_with fail
  generalize World.alloc w _ = w0 at *
  refine (HSM.out _).mono ?_
  rintro e w1 ⟨rfl, hb⟩
  replace K := Lib.hid (K.out.go hb)
  clear hb
  go_wp2_with fail
  refine (HFW.out _).mono ?_
  rintro e w2 ⟨rfl, hb⟩
  replace K := Lib.hid (K.out.go hb)
  clear hb
  have x0 := K.out.r.cell0; have x1 := K.out.r.cell1; have x2 := K.out.r.cell2; have x3 := K.out.r.cell3; have xl := K.out.r.lt
  go_wp2_with fail
  refine (HV.out _ K.out.b).mono ?_
  rintro e w3 ⟨rfl, hb⟩
  replace K := Lib.hid (K.out.go hb)
  clear x0 x1 x2 x3 xl
  clear hb
  go_wp2_with fail
  go_ret
  exact ⟨rfl, K.out.b⟩
set_option maxHeartbeats 40000000 in
theorem firsts_all (r : Rc) (A : Option Addr) (cap : Nat) (l : List Pl) (A2 : Option Addr) (c2 : Nat) (s : List Bx) (w : World) (hl : PlIn w A cap l) (hn : l.length ≤ 12 ∧ s.length ≤ 12) (hb : BxRow w A2 s) (hc : ArgOk r l) (S : List Sl) (er : Int) (her : er = 0 ∨ er = 1) (hof : ofS s = (S, er)) (hS : SolP S) (hall : AllB r l S) :
    Calls Tryz.prog 6 #[.agg #[.int .i64 r.X0, .int .i64 r.Y0, .int .i64 r.X1, .int .i64 r.Y1], .slice A l.length cap, .slice A2 s.length c2] w (BlIs true w) := by
  have K := Lib.hid (LK.start (r := r) hl)
  have HSM := Lib.hid (fun w' => msmall_any w')
  have HFW := Lib.hid (fun w' => mfew_any A cap l A2 c2 s w')
  rw [decide_eq_true hn] at HFW
  have HV := Lib.hid (fun w' (h : Below w.heap.size w w') => show Calls Tryz.prog 29 #[.agg #[.int .i64 r.X0, .int .i64 r.Y0, .int .i64 r.X1, .int .i64 r.Y1], .slice A l.length cap] w' (BlIs true w') from by
    have h1 := mvalid_any r A cap l w' (hl.below h)
    rw [decide_eq_true hc] at h1; exact h1)
  have hf : FstP r l S (z3, false) := Or.inr ⟨rfl, rfl, hall⟩
  have HOF := Lib.hid (fun w' (h : Below w.heap.size w w') => show Calls Tryz.prog 11 #[.slice A2 s.length c2] w' (OfE S S.length er w') from by
    have h1 := bof_any A2 c2 s w' (hb.below h) (by omega)
    rw [hof] at h1; exact h1)
  have HAL := Lib.hid (fun w' (h : Below w.heap.size w w') A3 c3 (hs : SIn w' A3 c3 S) => show Calls Tryz.prog 21 #[.agg #[.int .i64 r.X0, .int .i64 r.Y0, .int .i64 r.X1, .int .i64 r.Y1], .slice A l.length cap, .slice A3 S.length c3] w' (BlIs true w') from (kAllows_any r A cap l A3 c3 S w' (hl.below h) hs).mono fun e w2 k => AlIs.is (b := true) ⟨fun _ => ⟨⟨hc, hS⟩, hall⟩, fun _ => rfl⟩ k)
  have HFI := Lib.hid (fun w' (h : Below w.heap.size w w') A3 c3 (hs : SIn w' A3 c3 S) => show Calls Tryz.prog 16 #[.agg #[.int .i64 r.X0, .int .i64 r.Y0, .int .i64 r.X1, .int .i64 r.Y1], .slice A l.length cap, .slice A3 S.length c3] w' (FsZ w') from (kFirst_any r A cap l A3 c3 S w' (hl.below h) hs).mono fun e w2 k => show FsZ w' e w2 from FC.yes ⟨hc, hS⟩ (y := (z3, false)) hf k)
  generalize S.length = nS at *
  clear hl hn hb hof hall hf hc hS
  rcases her with rfl | rfl
  · go_enter Tryz.func6, Tryz.ntmps6
    go_wp2_with fail
    generalize World.alloc w _ = w0 at *
    refine (HSM.out _).mono ?_
    rintro e w1 ⟨rfl, hb⟩
    replace K := Lib.hid (K.out.go hb)
    clear hb
    go_wp2_with fail
    refine (HFW.out _).mono ?_
    rintro e w2 ⟨rfl, hb⟩
    replace K := Lib.hid (K.out.go hb)
    clear hb
    have x0 := K.out.r.cell0; have x1 := K.out.r.cell1; have x2 := K.out.r.cell2; have x3 := K.out.r.cell3; have xl := K.out.r.lt
    go_wp2_with fail
    refine (HV.out _ K.out.b).mono ?_
    rintro e w3 ⟨rfl, hb⟩
    replace K := Lib.hid (K.out.go hb)
    clear x0 x1 x2 x3 xl
    clear hb
    go_wp2_with fail
    refine (HOF.out _ K.out.b).mono ?_
    rintro e w4 ⟨A3, c3, rfl, hs3, hb⟩
    replace K := Lib.hid (K.out.go hb)
    have HS3 := Lib.hid hs3
    clear hs3
    clear hb
    have x0 := K.out.r.cell0; have x1 := K.out.r.cell1; have x2 := K.out.r.cell2; have x3 := K.out.r.cell3; have xl := K.out.r.lt
    go_wp2_with fail
    refine (HFI.out _ K.out.b _ _ HS3.out).mono ?_
    rintro e w5 ⟨rfl, hb⟩
    replace K := Lib.hid (K.out.go hb)
    replace HS3 := Lib.hid (HS3.out.below hb)
    clear x0 x1 x2 x3 xl
    clear hb
    have ba1 := (Below.refl w5.heap.size w5).alloc (Nat.le_refl _) (.cells #[.int .i64 0, .int .i64 0, .int .i64 0] 37)
    replace K := Lib.hid (K.out.go ba1)
    replace HS3 := Lib.hid (HS3.out.below ba1)
    have HP : Hid (P3At (w5.alloc (.cells #[.int .i64 0, .int .i64 0, .int .i64 0] 37)) w5.heap.size z3) := Lib.hid (P3At.new w5 z3 _ rfl)
    clear ba1
    have x0 := K.out.r.cell0; have x1 := K.out.r.cell1; have x2 := K.out.r.cell2; have x3 := K.out.r.cell3; have xl := K.out.r.lt
    go_wp2_with fail
    generalize World.alloc w5 _ = wp at *
    generalize w5.heap.size = g5 at *
    refine (HAL.out _ K.out.b _ _ HS3.out).mono ?_
    rintro e w6 ⟨rfl, hb⟩
    replace K := Lib.hid (K.out.go hb)
    replace HS3 := Lib.hid (HS3.out.below hb)
    replace HP := Lib.hid (HP.out.below hb)
    clear x0 x1 x2 x3 xl
    clear hb
    have p0 := HP.out.c0; have p1 := HP.out.c1; have p2 := HP.out.c2; have pl := HP.out.lt
    simp only [z3] at p0 p1 p2
    go_wp2_with fail
    go_ret
    exact ⟨rfl, K.out.b⟩
  · go_enter Tryz.func6, Tryz.ntmps6
    go_wp2_with fail
    generalize World.alloc w _ = w0 at *
    refine (HSM.out _).mono ?_
    rintro e w1 ⟨rfl, hb⟩
    replace K := Lib.hid (K.out.go hb)
    clear hb
    go_wp2_with fail
    refine (HFW.out _).mono ?_
    rintro e w2 ⟨rfl, hb⟩
    replace K := Lib.hid (K.out.go hb)
    clear hb
    have x0 := K.out.r.cell0; have x1 := K.out.r.cell1; have x2 := K.out.r.cell2; have x3 := K.out.r.cell3; have xl := K.out.r.lt
    go_wp2_with fail
    refine (HV.out _ K.out.b).mono ?_
    rintro e w3 ⟨rfl, hb⟩
    replace K := Lib.hid (K.out.go hb)
    clear x0 x1 x2 x3 xl
    clear hb
    go_wp2_with fail
    refine (HOF.out _ K.out.b).mono ?_
    rintro e w4 ⟨A3, c3, rfl, hs3, hb⟩
    replace K := Lib.hid (K.out.go hb)
    have HS3 := Lib.hid hs3
    clear hs3
    clear hb
    have x0 := K.out.r.cell0; have x1 := K.out.r.cell1; have x2 := K.out.r.cell2; have x3 := K.out.r.cell3; have xl := K.out.r.lt
    go_wp2_with fail
    refine (HFI.out _ K.out.b _ _ HS3.out).mono ?_
    rintro e w5 ⟨rfl, hb⟩
    replace K := Lib.hid (K.out.go hb)
    replace HS3 := Lib.hid (HS3.out.below hb)
    clear x0 x1 x2 x3 xl
    clear hb
    have ba1 := (Below.refl w5.heap.size w5).alloc (Nat.le_refl _) (.cells #[.int .i64 0, .int .i64 0, .int .i64 0] 37)
    replace K := Lib.hid (K.out.go ba1)
    replace HS3 := Lib.hid (HS3.out.below ba1)
    have HP : Hid (P3At (w5.alloc (.cells #[.int .i64 0, .int .i64 0, .int .i64 0] 37)) w5.heap.size z3) := Lib.hid (P3At.new w5 z3 _ rfl)
    clear ba1
    have x0 := K.out.r.cell0; have x1 := K.out.r.cell1; have x2 := K.out.r.cell2; have x3 := K.out.r.cell3; have xl := K.out.r.lt
    go_wp2_with fail
    generalize World.alloc w5 _ = wp at *
    generalize w5.heap.size = g5 at *
    refine (HAL.out _ K.out.b _ _ HS3.out).mono ?_
    rintro e w6 ⟨rfl, hb⟩
    replace K := Lib.hid (K.out.go hb)
    replace HS3 := Lib.hid (HS3.out.below hb)
    replace HP := Lib.hid (HP.out.below hb)
    clear x0 x1 x2 x3 xl
    clear hb
    have p0 := HP.out.c0; have p1 := HP.out.c1; have p2 := HP.out.c2; have pl := HP.out.lt
    simp only [z3] at p0 p1 p2
    go_wp2_with fail
    go_ret
    exact ⟨rfl, K.out.b⟩
def V7 (gb g5 : Nat) (r : Rc) (p : P3) (W w' : World) : Prop := w'.cell? ⟨gb, 0, none⟩ = some (.int .i64 r.X0) ∧ w'.cell? ⟨gb, 1, none⟩ = some (.int .i64 r.Y0) ∧ w'.cell? ⟨gb, 2, none⟩ = some (.int .i64 r.X1) ∧ w'.cell? ⟨gb, 3, none⟩ = some (.int .i64 r.Y1) ∧ w'.cell? ⟨g5, 0, none⟩ = some (.int .i64 p.x) ∧ w'.cell? ⟨g5, 1, none⟩ = some (.int .i64 p.y) ∧ w'.cell? ⟨g5, 2, none⟩ = some (.int .i64 p.z) ∧ gb < w'.heap.size ∧ g5 < w'.heap.size ∧ Hid (Below W.heap.size W w')
theorem V7.go {gb g5 : Nat} {r : Rc} {p : P3} {W w w' : World} (h : V7 gb g5 r p W w) (hb : Below w.heap.size w w') : V7 gb g5 r p W w' := by
  obtain ⟨c0, c1, c2, c3, d0, d1, d2, l1, l2, h5⟩ := h
  have wc := fun o => hb.cell (p := ⟨gb, o, none⟩) l1
  have wd := fun o => hb.cell (p := ⟨g5, o, none⟩) l2
  exact ⟨(wc _).trans c0, (wc _).trans c1, (wc _).trans c2, (wc _).trans c3, (wd _).trans d0, (wd _).trans d1, (wd _).trans d2, Nat.lt_of_lt_of_le l1 hb.size, Nat.lt_of_lt_of_le l2 hb.size, Lib.hid (h5.out.trans (hb.mono h5.out.size))⟩
theorem V7.drewN {gb g5 : Nat} {r : Rc} {p : P3} {W w : World} (h : V7 gb g5 r p W w) (n : Nat) : V7 gb g5 r p W (w.drewN n) := h.go (below_drewN (Below.refl _ _) n)
theorem V7.bel {gb g5 : Nat} {r : Rc} {p : P3} {W w : World} (h : V7 gb g5 r p W w) : Below W.heap.size W w := h.2.2.2.2.2.2.2.2.2.out
set_option maxHeartbeats 40000000 in
theorem firsts_some (r : Rc) (A : Option Addr) (cap : Nat) (l : List Pl) (A2 : Option Addr) (c2 : Nat) (s : List Bx) (w : World) (hl : PlIn w A cap l) (hn : l.length ≤ 12 ∧ s.length ≤ 12) (hb : BxRow w A2 s) (hc : ArgOk r l) (S : List Sl) (hof : ofS s = (S, 0)) (hS : SolP S) (p : P3) (hfc : FstC r l S p) :
    Calls Tryz.prog 6 #[.agg #[.int .i64 r.X0, .int .i64 r.Y0, .int .i64 r.X1, .int .i64 r.Y1], .slice A l.length cap, .slice A2 s.length c2] w (BlIs true w) := by
  have K := Lib.hid (LK.start (r := r) hl)
  have HSM := Lib.hid (fun w' => msmall_any w')
  have HFW := Lib.hid (fun w' => mfew_any A cap l A2 c2 s w')
  rw [decide_eq_true hn] at HFW
  have HV := Lib.hid (fun w' (h : Below w.heap.size w w') => show Calls Tryz.prog 29 #[.agg #[.int .i64 r.X0, .int .i64 r.Y0, .int .i64 r.X1, .int .i64 r.Y1], .slice A l.length cap] w' (BlIs true w') from by
    have h1 := mvalid_any r A cap l w' (hl.below h)
    rw [decide_eq_true hc] at h1; exact h1)
  have hf : FstP r l S (p, true) := Or.inl ⟨rfl, hfc⟩
  have HOF := Lib.hid (fun w' (h : Below w.heap.size w w') => show Calls Tryz.prog 11 #[.slice A2 s.length c2] w' (OfE S S.length 0 w') from by
    have h1 := bof_any A2 c2 s w' (hb.below h) (by omega)
    rw [hof] at h1; exact h1)
  have HAL := Lib.hid (fun w' (h : Below w.heap.size w w') A3 c3 (hs : SIn w' A3 c3 S) => show Calls Tryz.prog 21 #[.agg #[.int .i64 r.X0, .int .i64 r.Y0, .int .i64 r.X1, .int .i64 r.Y1], .slice A l.length cap, .slice A3 S.length c3] w' (BlIs false w') from (kAllows_any r A cap l A3 c3 S w' (hl.below h) hs).mono fun e w2 k => AlIs.is (b := false) ⟨fun h => (by cases h), fun h => (by have := (FstP.all hf).2 h.2; cases this)⟩ k)
  have HFI := Lib.hid (fun w' (h : Below w.heap.size w w') A3 c3 (hs : SIn w' A3 c3 S) => show Calls Tryz.prog 16 #[.agg #[.int .i64 r.X0, .int .i64 r.Y0, .int .i64 r.X1, .int .i64 r.Y1], .slice A l.length cap, .slice A3 S.length c3] w' (FsE p true w') from (kFirst_any r A cap l A3 c3 S w' (hl.below h) hs).mono fun e w2 k => show FsE p true w' e w2 from FC.yes ⟨hc, hS⟩ (y := (p, true)) hf k)
  have hpo := first_ok hS hfc
  have HBF := Lib.hid (fun w' A3 c3 (h : SIn w' A3 c3 S) => show Calls Tryz.prog 30 #[.slice A3 S.length c3, .agg #[.int .i64 p.x, .int .i64 p.y, .int .i64 p.z]] w' (SolRes (opS and S (solB (befL p))) w') from mbefore_any A3 c3 S p w' h hpo hS)
  have HHS := Lib.hid (fun w' A3 c3 (h : SIn w' A3 c3 S) => show Calls Tryz.prog 31 #[.slice A3 S.length c3, .int .i64 p.x, .int .i64 p.y, .int .i64 p.z] w' (BlIs true w') from by
    have h1 := bhas_any A3 c3 S p.x p.y p.z w' h
    rw [hasGS_yes hS, show hasB (secS S p.z) p.x p.y = true from (hasB_iff _ _ _).2 hfc.has] at h1; exact h1)
  have HTP := Lib.hid (fun w' (h : Below w.heap.size w w') => show Calls Tryz.prog 27 #[.agg #[.int .i64 r.X0, .int .i64 r.Y0, .int .i64 r.X1, .int .i64 r.Y1], .slice A l.length cap, .int .i64 p.x, .int .i64 p.y] w' (InIs (topH r l p.x p.y) w') from by
    have h1 := kTop_any r A cap l p.x p.y w' (hl.below h)
    rw [show TopIs r l p.x p.y = topH r l p.x p.y from if_pos ⟨hc, hpo.1⟩] at h1; exact h1)
  have htz := hfc.top
  have hba := bef_all hS hfc
  have hbo := solB_small (bef_ok hpo) (by have := bef_len p; omega)
  have hcap : opS and S (solB (befL p)) = capS (solO and S (solB (befL p))) := opS_cap hS hbo
  have hso := (solO_is (op := and) rfl hS.form hbo.form).1
  rw [hcap] at HBF
  generalize topH r l p.x p.y = tp at *
  generalize solO and S (solB (befL p)) = F at *
  have tz1 : decide (tp ≤ p.z) = true := decide_eq_true htz
  have HNS : True := trivial
  generalize S.length = nS at *
  have HHA := Lib.hid hc
  have HHL := Lib.hid hl
  clear hn hb hof hf hfc hcap hbo hpo
  go_enter Tryz.func6, Tryz.ntmps6
  go_wp2_with fail
  generalize World.alloc w _ = w0 at *
  refine (HSM.out _).mono ?_
  rintro e w1 ⟨rfl, hb⟩
  replace K := Lib.hid (K.out.go hb)
  clear hb
  go_wp2_with fail
  refine (HFW.out _).mono ?_
  rintro e w2 ⟨rfl, hb⟩
  replace K := Lib.hid (K.out.go hb)
  clear hb
  have x0 := K.out.r.cell0; have x1 := K.out.r.cell1; have x2 := K.out.r.cell2; have x3 := K.out.r.cell3; have xl := K.out.r.lt
  go_wp2_with fail
  refine (HV.out _ K.out.b).mono ?_
  rintro e w3 ⟨rfl, hb⟩
  replace K := Lib.hid (K.out.go hb)
  clear x0 x1 x2 x3 xl
  clear hb
  go_wp2_with fail
  refine (HOF.out _ K.out.b).mono ?_
  rintro e w4 ⟨A3, c3, rfl, hs3, hb⟩
  replace K := Lib.hid (K.out.go hb)
  have HS3 := Lib.hid hs3
  clear hs3
  clear hb
  have x0 := K.out.r.cell0; have x1 := K.out.r.cell1; have x2 := K.out.r.cell2; have x3 := K.out.r.cell3; have xl := K.out.r.lt
  go_wp2_with fail
  refine (HFI.out _ K.out.b _ _ HS3.out).mono ?_
  rintro e w5 ⟨rfl, hb⟩
  replace K := Lib.hid (K.out.go hb)
  replace HS3 := Lib.hid (HS3.out.below hb)
  clear x0 x1 x2 x3 xl
  clear hb
  have ba1 := (Below.refl w5.heap.size w5).alloc (Nat.le_refl _) (.cells #[.int .i64 p.x, .int .i64 p.y, .int .i64 p.z] 37)
  replace K := Lib.hid (K.out.go ba1)
  replace HS3 := Lib.hid (HS3.out.below ba1)
  have HP : Hid (P3At (w5.alloc (.cells #[.int .i64 p.x, .int .i64 p.y, .int .i64 p.z] 37)) w5.heap.size p) := Lib.hid (P3At.new w5 p _ rfl)
  clear ba1
  have x0 := K.out.r.cell0; have x1 := K.out.r.cell1; have x2 := K.out.r.cell2; have x3 := K.out.r.cell3; have xl := K.out.r.lt
  go_wp2_with fail
  generalize World.alloc w5 _ = wp at *
  generalize w5.heap.size = g5 at *
  refine (HAL.out _ K.out.b _ _ HS3.out).mono ?_
  rintro e w6 ⟨rfl, hb⟩
  replace K := Lib.hid (K.out.go hb)
  replace HS3 := Lib.hid (HS3.out.below hb)
  replace HP := Lib.hid (HP.out.below hb)
  clear x0 x1 x2 x3 xl
  clear hb
  have p0 := HP.out.c0; have p1 := HP.out.c1; have p2 := HP.out.c2; have pl := HP.out.lt
  go_wp2_with fail
  by_cases cq : F.length ≤ 80 ∧ ∀ s ∈ F, s.ar.length ≤ 200
  · rw [show capS F = (F, 0) from if_pos cq] at HBF
    have hSF : SolP F := ⟨hso, cq.1, cq.2⟩
    have HAF := Lib.hid (fun w' (h : Below w.heap.size w w') A6 c6 (h6 : SIn w' A6 c6 F) => show Calls Tryz.prog 21 #[.agg #[.int .i64 r.X0, .int .i64 r.Y0, .int .i64 r.X1, .int .i64 r.Y1], .slice A l.length cap, .slice A6 F.length c6] w' (BlIs true w') from (kAllows_any r A cap l A6 c6 F w' (HHL.out.below h) h6).mono fun e w2 k => AlIs.is (b := true) ⟨fun _ => ⟨⟨HHA.out, hSF⟩, hba⟩, fun _ => rfl⟩ k)
    refine (HBF.out _ _ _ HS3.out).mono ?_
    rintro e w7 ⟨A6, c6, rfl, hs6, hb⟩
    replace K := Lib.hid (K.out.go hb)
    replace HS3 := Lib.hid (HS3.out.below hb)
    replace HP := Lib.hid (HP.out.below hb)
    clear p0 p1 p2 pl
    have HS6 := Lib.hid hs6
    clear hs6
    clear hb
    simp only [] at HS6 HAF
    generalize F.length = nF at *
    clear cq hso hba hSF
    go_wp2_with fail
    obtain ⟨wq, hwq⟩ : ∃ wq, wq = w7 := ⟨_, rfl⟩
    rw [← hwq] at K HS3 HS6 HP ⊢
    clear hwq
    have E1 : Hid (V7 w.heap.size g5 r p wq wq) := Lib.hid ⟨K.out.r.cell0, K.out.r.cell1, K.out.r.cell2, K.out.r.cell3, HP.out.c0, HP.out.c1, HP.out.c2, K.out.r.lt, HP.out.lt, Lib.hid (Below.refl _ _)⟩
    replace HHS := Lib.hid (fun w' (h : Below wq.heap.size wq w') => HHS.out w' _ _ (HS3.out.below h))
    replace HTP := Lib.hid (fun w' (h : Below wq.heap.size wq w') => HTP.out w' (K.out.b.trans (h.mono K.out.b.size)))
    replace HAF := Lib.hid (fun w' (h : Below wq.heap.size wq w') => HAF.out w' (K.out.b.trans (h.mono K.out.b.size)) _ _ (HS6.out.below h))
    refine wp_region_held_drew (S := fun w' => w'.cell? ⟨w.heap.size, 0, none⟩ = some (.int .i64 r.X0) ∧ w'.cell? ⟨w.heap.size, 1, none⟩ = some (.int .i64 r.Y0) ∧ w'.cell? ⟨w.heap.size, 2, none⟩ = some (.int .i64 r.X1) ∧ w'.cell? ⟨w.heap.size, 3, none⟩ = some (.int .i64 r.Y1) ∧ w'.cell? ⟨g5, 0, none⟩ = some (.int .i64 p.x) ∧ w'.cell? ⟨g5, 1, none⟩ = some (.int .i64 p.y) ∧ w'.cell? ⟨g5, 2, none⟩ = some (.int .i64 p.z) ∧ w.heap.size < w'.heap.size ∧ g5 < w'.heap.size ∧ Hid (Below wq.heap.size wq w')) (by kernel_rfl) ?_ (fun hHeld => ?_)
    · exact V7.drewN E1.out 1
    refine wpAnyH_take (i := 0) (oi := { dst := some 68, op := Go.Op.move (Go.Operand.tmp 7), type := 4, pos := "law.go:162", after := #[], guard := none }) (v := ?_) rfl (by kernel_rfl) (by kernel_rfl) (by kernel_rfl) (fun _ _ _ h => h) (Or.inl ⟨by rfl, ?_⟩) (by assumption) ?_
    rotate_left
    · (intro w hSw; (try dsimp only at hSw); go_simp); try with_reducible rfl
    try simp only [Act.put, List.setIfInBounds_toArray, List.set_cons_zero, List.set_cons_succ]
    refine wpAnyH_take (i := 1) (oi := { dst := some 69, op := Go.Op.move (Go.Operand.tmp 68), type := 4, pos := "law.go:162", after := #[{ on := 0, ground := Go.Ground.data }], guard := none }) (v := ?_) rfl (by kernel_rfl) (by kernel_rfl) (by kernel_rfl) (fun _ _ _ h => h) (Or.inl ⟨by rfl, ?_⟩) (by assumption) ?_
    rotate_left
    · (intro w hSw; (try dsimp only at hSw); go_simp); try with_reducible rfl
    try simp only [Act.put, List.setIfInBounds_toArray, List.set_cons_zero, List.set_cons_succ]
    refine wpAnyH_take (i := 2) (oi := { dst := some 70, op := Go.Op.move (Go.Operand.tmp 13), type := 27, pos := "law.go:162", after := #[{ on := 1, ground := Go.Ground.guard }], guard := some (1, true) }) (v := ?_) rfl (by kernel_rfl) (by kernel_rfl) (by kernel_rfl) (fun _ _ _ h => h) (Or.inl ⟨by rfl, ?_⟩) (by assumption) ?_
    rotate_left
    · (intro w hSw; (try dsimp only at hSw); go_simp); try with_reducible rfl
    try simp only [Act.put, List.setIfInBounds_toArray, List.set_cons_zero, List.set_cons_succ]
    refine wpAnyH_take (i := 3) (oi := { dst := some 71, op := Go.Op.binOp Go.BinOp.eql 27 (Go.Operand.tmp 70) (Go.Operand.const (Go.Value.int Go.IntKind.i64 0)) 27, type := 4, pos := "law.go:162", after := #[{ on := 2, ground := Go.Ground.data }, { on := 1, ground := Go.Ground.guard }], guard := some (1, true) }) (v := ?_) rfl (by kernel_rfl) (by kernel_rfl) (by kernel_rfl) (fun _ _ _ h => h) (Or.inl ⟨by rfl, ?_⟩) (by assumption) ?_
    rotate_left
    · (intro w hSw; (try dsimp only at hSw); go_simp); try with_reducible rfl
    try simp only [Act.put, List.setIfInBounds_toArray, List.set_cons_zero, List.set_cons_succ]
    refine wpAnyH_take (i := 4) (oi := { dst := some 72, op := Go.Op.pick (Go.Operand.tmp 69) (Go.Operand.tmp 71) (Go.Operand.const (Go.Value.bool false)), type := 4, pos := "law.go:162", after := #[{ on := 1, ground := Go.Ground.data }, { on := 3, ground := Go.Ground.data }], guard := none }) (v := ?_) rfl (by kernel_rfl) (by kernel_rfl) (by kernel_rfl) (fun _ _ _ h => h) (Or.inl ⟨by rfl, ?_⟩) (by assumption) ?_
    rotate_left
    · (intro w hSw; (try dsimp only at hSw); go_simp); try with_reducible rfl
    try simp only [Act.put, List.setIfInBounds_toArray, List.set_cons_zero, List.set_cons_succ]
    refine wpAnyH_take (i := 5) (oi := { dst := some 73, op := Go.Op.move (Go.Operand.tmp 72), type := 4, pos := "law.go:162", after := #[{ on := 4, ground := Go.Ground.data }, { on := 1, ground := Go.Ground.chain }], guard := none }) (v := ?_) rfl (by kernel_rfl) (by kernel_rfl) (by kernel_rfl) (fun _ _ _ h => h) (Or.inl ⟨by rfl, ?_⟩) (by assumption) ?_
    rotate_left
    · (intro w hSw; (try dsimp only at hSw); go_simp); try with_reducible rfl
    try simp only [Act.put, List.setIfInBounds_toArray, List.set_cons_zero, List.set_cons_succ]
    refine wpAnyH_take (i := 6) (oi := { dst := some 74, op := Go.Op.move (Go.Operand.tmp 8), type := 22, pos := "law.go:162", after := #[{ on := 5, ground := Go.Ground.guard }], guard := some (5, true) }) (v := ?_) rfl (by kernel_rfl) (by kernel_rfl) (by kernel_rfl) (fun _ _ _ h => h) (Or.inl ⟨by rfl, ?_⟩) (by assumption) ?_
    rotate_left
    · (intro w hSw; (try dsimp only at hSw); go_simp); try with_reducible rfl
    try simp only [Act.put, List.setIfInBounds_toArray, List.set_cons_zero, List.set_cons_succ]
    refine wpAnyH_take (i := 7) (oi := { dst := some 75, op := Go.Op.fieldAddr 37 (Go.Operand.tmp 10) 0, type := 0, pos := "law.go:162", after := #[{ on := 5, ground := Go.Ground.guard }], guard := some (5, true) }) (v := ?_) rfl (by kernel_rfl) (by kernel_rfl) (by kernel_rfl) (fun _ _ _ h => h) (Or.inl ⟨by rfl, ?_⟩) (by assumption) ?_
    rotate_left
    · (intro w hSw; (try dsimp only at hSw); go_simp); try with_reducible rfl
    try simp only [Act.put, List.setIfInBounds_toArray, List.set_cons_zero, List.set_cons_succ]
    refine wpAnyH_take (i := 8) (oi := { dst := some 76, op := Go.Op.load 3 (Go.Operand.tmp 75), type := 3, pos := "law.go:162", after := #[{ on := 7, ground := Go.Ground.data }, { on := 5, ground := Go.Ground.guard }], guard := some (5, true) }) (v := ?_) rfl (by kernel_rfl) (by kernel_rfl) (by kernel_rfl) (fun _ _ _ h => h) (Or.inl ⟨by rfl, ?_⟩) (by assumption) ?_
    rotate_left
    · (intro w hSw; (try dsimp only at hSw); go_simp); try with_reducible rfl
    try simp only [Act.put, List.setIfInBounds_toArray, List.set_cons_zero, List.set_cons_succ]
    refine wpAnyH_take (i := 9) (oi := { dst := some 77, op := Go.Op.fieldAddr 37 (Go.Operand.tmp 10) 1, type := 0, pos := "law.go:162", after := #[{ on := 5, ground := Go.Ground.guard }], guard := some (5, true) }) (v := ?_) rfl (by kernel_rfl) (by kernel_rfl) (by kernel_rfl) (fun _ _ _ h => h) (Or.inl ⟨by rfl, ?_⟩) (by assumption) ?_
    rotate_left
    · (intro w hSw; (try dsimp only at hSw); go_simp); try with_reducible rfl
    try simp only [Act.put, List.setIfInBounds_toArray, List.set_cons_zero, List.set_cons_succ]
    refine wpAnyH_take (i := 10) (oi := { dst := some 78, op := Go.Op.load 3 (Go.Operand.tmp 77), type := 3, pos := "law.go:162", after := #[{ on := 9, ground := Go.Ground.data }, { on := 5, ground := Go.Ground.guard }], guard := some (5, true) }) (v := ?_) rfl (by kernel_rfl) (by kernel_rfl) (by kernel_rfl) (fun _ _ _ h => h) (Or.inl ⟨by rfl, ?_⟩) (by assumption) ?_
    rotate_left
    · (intro w hSw; (try dsimp only at hSw); go_simp); try with_reducible rfl
    try simp only [Act.put, List.setIfInBounds_toArray, List.set_cons_zero, List.set_cons_succ]
    refine wpAnyH_take (i := 11) (oi := { dst := some 79, op := Go.Op.fieldAddr 37 (Go.Operand.tmp 10) 2, type := 0, pos := "law.go:162", after := #[{ on := 5, ground := Go.Ground.guard }], guard := some (5, true) }) (v := ?_) rfl (by kernel_rfl) (by kernel_rfl) (by kernel_rfl) (fun _ _ _ h => h) (Or.inl ⟨by rfl, ?_⟩) (by assumption) ?_
    rotate_left
    · (intro w hSw; (try dsimp only at hSw); go_simp); try with_reducible rfl
    try simp only [Act.put, List.setIfInBounds_toArray, List.set_cons_zero, List.set_cons_succ]
    refine wpAnyH_take (i := 12) (oi := { dst := some 80, op := Go.Op.load 3 (Go.Operand.tmp 79), type := 3, pos := "law.go:162", after := #[{ on := 11, ground := Go.Ground.data }, { on := 5, ground := Go.Ground.guard }], guard := some (5, true) }) (v := ?_) rfl (by kernel_rfl) (by kernel_rfl) (by kernel_rfl) (fun _ _ _ h => h) (Or.inl ⟨by rfl, ?_⟩) (by assumption) ?_
    rotate_left
    · (intro w hSw; (try dsimp only at hSw); go_simp); try with_reducible rfl
    try simp only [Act.put, List.setIfInBounds_toArray, List.set_cons_zero, List.set_cons_succ]
    have hbq9 := V7.bel (gb := w.heap.size) (g5 := g5) (r := r) (p := p) (W := wq) hHeld
    refine wpAnyH_ready (rs := [13]) (by kernel_rfl) (by simp) ?_
    refine AllReadyH.cons (o := { dst := some 81, op := Go.Op.call { callee := Go.Callee.value (Go.Operand.func 31), args := #[Go.Operand.tmp 74, Go.Operand.tmp 76, Go.Operand.tmp 78, Go.Operand.tmp 80], argTypes := #[22, 3, 3, 3] }, type := 4, pos := "law.go:162", after := #[{ on := 6, ground := Go.Ground.data }, { on := 8, ground := Go.Ground.data }, { on := 10, ground := Go.Ground.data }, { on := 12, ground := Go.Ground.data }, { on := 5, ground := Go.Ground.chain }, { on := 5, ground := Go.Ground.guard }], guard := some (5, true) }) rfl (fun K' hK => ?_) AllReadyH.nil
    go_simp
    go_at_call 31
    with_reducible refine Calls.mono (HHS.out _ hbq9) ?_
    rintro e w913 ⟨rfl, hb⟩
    try go_wp2_with fail
    refine hK.out _ _ (V7.go (gb := w.heap.size) (g5 := g5) (r := r) (p := p) (W := wq) (by assumption) hb) (fun hHeld2 => ?_)
    clear hK K' hHeld hb hbq9
    have hHeld := hHeld2; clear hHeld2
    try simp only [Act.put, List.setIfInBounds_toArray, List.set_cons_zero, List.set_cons_succ]
    refine wpAnyH_take (i := 14) (oi := { dst := some 82, op := Go.Op.pick (Go.Operand.tmp 73) (Go.Operand.tmp 81) (Go.Operand.const (Go.Value.bool false)), type := 4, pos := "law.go:162", after := #[{ on := 5, ground := Go.Ground.data }, { on := 13, ground := Go.Ground.data }], guard := none }) (v := ?_) rfl (by kernel_rfl) (by kernel_rfl) (by kernel_rfl) (fun _ _ _ h => h) (Or.inl ⟨by rfl, ?_⟩) (by assumption) ?_
    rotate_left
    · (intro w hSw; (try dsimp only at hSw); go_simp); try with_reducible rfl
    try simp only [Act.put, List.setIfInBounds_toArray, List.set_cons_zero, List.set_cons_succ]
    refine wpAnyH_take (i := 15) (oi := { dst := some 83, op := Go.Op.move (Go.Operand.tmp 82), type := 4, pos := "law.go:162", after := #[{ on := 14, ground := Go.Ground.data }, { on := 13, ground := Go.Ground.chain }], guard := none }) (v := ?_) rfl (by kernel_rfl) (by kernel_rfl) (by kernel_rfl) (fun _ _ _ h => h) (Or.inl ⟨by rfl, ?_⟩) (by assumption) ?_
    rotate_left
    · (intro w hSw; (try dsimp only at hSw); go_simp); try with_reducible rfl
    try simp only [Act.put, List.setIfInBounds_toArray, List.set_cons_zero, List.set_cons_succ]
    refine wpAnyH_take (i := 16) (oi := { dst := some 84, op := Go.Op.fieldAddr 37 (Go.Operand.tmp 10) 2, type := 0, pos := "law.go:162", after := #[{ on := 15, ground := Go.Ground.guard }], guard := some (15, true) }) (v := ?_) rfl (by kernel_rfl) (by kernel_rfl) (by kernel_rfl) (fun _ _ _ h => h) (Or.inl ⟨by rfl, ?_⟩) (by assumption) ?_
    rotate_left
    · (intro w hSw; (try dsimp only at hSw); go_simp); try with_reducible rfl
    try simp only [Act.put, List.setIfInBounds_toArray, List.set_cons_zero, List.set_cons_succ]
    refine wpAnyH_take (i := 17) (oi := { dst := some 85, op := Go.Op.load 3 (Go.Operand.tmp 84), type := 3, pos := "law.go:162", after := #[{ on := 16, ground := Go.Ground.data }, { on := 15, ground := Go.Ground.guard }], guard := some (15, true) }) (v := ?_) rfl (by kernel_rfl) (by kernel_rfl) (by kernel_rfl) (fun _ _ _ h => h) (Or.inl ⟨by rfl, ?_⟩) (by assumption) ?_
    rotate_left
    · (intro w hSw; (try dsimp only at hSw); go_simp); try with_reducible rfl
    try simp only [Act.put, List.setIfInBounds_toArray, List.set_cons_zero, List.set_cons_succ]
    refine wpAnyH_take (i := 18) (oi := { dst := some 86, op := Go.Op.load 33 (Go.Operand.tmp 3), type := 33, pos := "law.go:162", after := #[{ on := 15, ground := Go.Ground.guard }], guard := some (15, true) }) (v := ?_) rfl (by kernel_rfl) (by kernel_rfl) (by kernel_rfl) (fun _ _ _ h => h) (Or.inl ⟨by rfl, ?_⟩) (by assumption) ?_
    rotate_left
    · (intro w hSw; (try dsimp only at hSw); go_simp); try with_reducible rfl
    try simp only [Act.put, List.setIfInBounds_toArray, List.set_cons_zero, List.set_cons_succ]
    refine wpAnyH_take (i := 19) (oi := { dst := some 87, op := Go.Op.move (Go.Operand.tmp 1), type := 34, pos := "law.go:162", after := #[{ on := 15, ground := Go.Ground.guard }], guard := some (15, true) }) (v := ?_) rfl (by kernel_rfl) (by kernel_rfl) (by kernel_rfl) (fun _ _ _ h => h) (Or.inl ⟨by rfl, ?_⟩) (by assumption) ?_
    rotate_left
    · (intro w hSw; (try dsimp only at hSw); go_simp); try with_reducible rfl
    try simp only [Act.put, List.setIfInBounds_toArray, List.set_cons_zero, List.set_cons_succ]
    refine wpAnyH_take (i := 20) (oi := { dst := some 88, op := Go.Op.fieldAddr 37 (Go.Operand.tmp 10) 0, type := 0, pos := "law.go:162", after := #[{ on := 15, ground := Go.Ground.guard }], guard := some (15, true) }) (v := ?_) rfl (by kernel_rfl) (by kernel_rfl) (by kernel_rfl) (fun _ _ _ h => h) (Or.inl ⟨by rfl, ?_⟩) (by assumption) ?_
    rotate_left
    · (intro w hSw; (try dsimp only at hSw); go_simp); try with_reducible rfl
    try simp only [Act.put, List.setIfInBounds_toArray, List.set_cons_zero, List.set_cons_succ]
    refine wpAnyH_take (i := 21) (oi := { dst := some 89, op := Go.Op.load 3 (Go.Operand.tmp 88), type := 3, pos := "law.go:162", after := #[{ on := 20, ground := Go.Ground.data }, { on := 15, ground := Go.Ground.guard }], guard := some (15, true) }) (v := ?_) rfl (by kernel_rfl) (by kernel_rfl) (by kernel_rfl) (fun _ _ _ h => h) (Or.inl ⟨by rfl, ?_⟩) (by assumption) ?_
    rotate_left
    · (intro w hSw; (try dsimp only at hSw); go_simp); try with_reducible rfl
    try simp only [Act.put, List.setIfInBounds_toArray, List.set_cons_zero, List.set_cons_succ]
    refine wpAnyH_take (i := 22) (oi := { dst := some 90, op := Go.Op.fieldAddr 37 (Go.Operand.tmp 10) 1, type := 0, pos := "law.go:162", after := #[{ on := 15, ground := Go.Ground.guard }], guard := some (15, true) }) (v := ?_) rfl (by kernel_rfl) (by kernel_rfl) (by kernel_rfl) (fun _ _ _ h => h) (Or.inl ⟨by rfl, ?_⟩) (by assumption) ?_
    rotate_left
    · (intro w hSw; (try dsimp only at hSw); go_simp); try with_reducible rfl
    try simp only [Act.put, List.setIfInBounds_toArray, List.set_cons_zero, List.set_cons_succ]
    refine wpAnyH_take (i := 23) (oi := { dst := some 91, op := Go.Op.load 3 (Go.Operand.tmp 90), type := 3, pos := "law.go:162", after := #[{ on := 22, ground := Go.Ground.data }, { on := 15, ground := Go.Ground.guard }], guard := some (15, true) }) (v := ?_) rfl (by kernel_rfl) (by kernel_rfl) (by kernel_rfl) (fun _ _ _ h => h) (Or.inl ⟨by rfl, ?_⟩) (by assumption) ?_
    rotate_left
    · (intro w hSw; (try dsimp only at hSw); go_simp); try with_reducible rfl
    try simp only [Act.put, List.setIfInBounds_toArray, List.set_cons_zero, List.set_cons_succ]
    have hbq9 := V7.bel (gb := w.heap.size) (g5 := g5) (r := r) (p := p) (W := wq) hHeld
    refine wpAnyH_ready (rs := [24]) (by kernel_rfl) (by simp) ?_
    refine AllReadyH.cons (o := { dst := some 92, op := Go.Op.call { callee := Go.Callee.value (Go.Operand.func 27), args := #[Go.Operand.tmp 86, Go.Operand.tmp 87, Go.Operand.tmp 89, Go.Operand.tmp 91], argTypes := #[33, 34, 3, 3] }, type := 3, pos := "law.go:162", after := #[{ on := 18, ground := Go.Ground.data }, { on := 19, ground := Go.Ground.data }, { on := 21, ground := Go.Ground.data }, { on := 23, ground := Go.Ground.data }, { on := 15, ground := Go.Ground.chain }, { on := 15, ground := Go.Ground.guard }], guard := some (15, true) }) rfl (fun K' hK => ?_) AllReadyH.nil
    go_simp
    go_at_call 27
    with_reducible refine Calls.mono (HTP.out _ hbq9) ?_
    rintro e w924 ⟨rfl, hb⟩
    try go_wp2_with fail
    refine hK.out _ _ (V7.go (gb := w.heap.size) (g5 := g5) (r := r) (p := p) (W := wq) (by assumption) hb) (fun hHeld2 => ?_)
    clear hK K' hHeld hb hbq9
    have hHeld := hHeld2; clear hHeld2
    try simp only [Act.put, List.setIfInBounds_toArray, List.set_cons_zero, List.set_cons_succ]
    refine wpAnyH_take (i := 25) (oi := { dst := some 93, op := Go.Op.binOp Go.BinOp.geq 3 (Go.Operand.tmp 85) (Go.Operand.tmp 92) 3, type := 4, pos := "law.go:162", after := #[{ on := 17, ground := Go.Ground.data }, { on := 24, ground := Go.Ground.data }, { on := 15, ground := Go.Ground.guard }], guard := some (15, true) }) (v := ?_) rfl (by kernel_rfl) (by kernel_rfl) (by kernel_rfl) (fun _ _ _ h => h) (Or.inl ⟨by rfl, ?_⟩) (by assumption) ?_
    rotate_left
    · (intro w hSw; (try dsimp only at hSw); go_simp); try with_reducible rfl
    try simp only [Act.put, List.setIfInBounds_toArray, List.set_cons_zero, List.set_cons_succ]
    refine wpAnyH_take (i := 26) (oi := { dst := some 94, op := Go.Op.pick (Go.Operand.tmp 83) (Go.Operand.tmp 93) (Go.Operand.const (Go.Value.bool false)), type := 4, pos := "law.go:162", after := #[{ on := 15, ground := Go.Ground.data }, { on := 25, ground := Go.Ground.data }], guard := none }) (v := ?_) rfl (by kernel_rfl) (by kernel_rfl) (by kernel_rfl) (fun _ _ _ h => h) (Or.inl ⟨by rfl, ?_⟩) (by assumption) ?_
    rotate_left
    · (intro w hSw; (try dsimp only at hSw); go_simp); try with_reducible rfl
    try simp only [Act.put, List.setIfInBounds_toArray, List.set_cons_zero, List.set_cons_succ]
    refine wpAnyH_take (i := 27) (oi := { dst := some 95, op := Go.Op.move (Go.Operand.tmp 94), type := 4, pos := "law.go:162", after := #[{ on := 26, ground := Go.Ground.data }, { on := 24, ground := Go.Ground.chain }], guard := none }) (v := ?_) rfl (by kernel_rfl) (by kernel_rfl) (by kernel_rfl) (fun _ _ _ h => h) (Or.inl ⟨by rfl, ?_⟩) (by assumption) ?_
    rotate_left
    · (intro w hSw; (try dsimp only at hSw); go_simp); try with_reducible rfl
    try simp only [Act.put, List.setIfInBounds_toArray, List.set_cons_zero, List.set_cons_succ]
    refine wpAnyH_take (i := 28) (oi := { dst := some 96, op := Go.Op.load 33 (Go.Operand.tmp 3), type := 33, pos := "law.go:162", after := #[{ on := 27, ground := Go.Ground.guard }], guard := some (27, true) }) (v := ?_) rfl (by kernel_rfl) (by kernel_rfl) (by kernel_rfl) (fun _ _ _ h => h) (Or.inl ⟨by rfl, ?_⟩) (by assumption) ?_
    rotate_left
    · (intro w hSw; (try dsimp only at hSw); go_simp); try with_reducible rfl
    try simp only [Act.put, List.setIfInBounds_toArray, List.set_cons_zero, List.set_cons_succ]
    refine wpAnyH_take (i := 29) (oi := { dst := some 97, op := Go.Op.move (Go.Operand.tmp 1), type := 34, pos := "law.go:162", after := #[{ on := 27, ground := Go.Ground.guard }], guard := some (27, true) }) (v := ?_) rfl (by kernel_rfl) (by kernel_rfl) (by kernel_rfl) (fun _ _ _ h => h) (Or.inl ⟨by rfl, ?_⟩) (by assumption) ?_
    rotate_left
    · (intro w hSw; (try dsimp only at hSw); go_simp); try with_reducible rfl
    try simp only [Act.put, List.setIfInBounds_toArray, List.set_cons_zero, List.set_cons_succ]
    refine wpAnyH_take (i := 30) (oi := { dst := some 98, op := Go.Op.move (Go.Operand.tmp 12), type := 22, pos := "law.go:162", after := #[{ on := 27, ground := Go.Ground.guard }], guard := some (27, true) }) (v := ?_) rfl (by kernel_rfl) (by kernel_rfl) (by kernel_rfl) (fun _ _ _ h => h) (Or.inl ⟨by rfl, ?_⟩) (by assumption) ?_
    rotate_left
    · (intro w hSw; (try dsimp only at hSw); go_simp); try with_reducible rfl
    try simp only [Act.put, List.setIfInBounds_toArray, List.set_cons_zero, List.set_cons_succ]
    have hbq9 := V7.bel (gb := w.heap.size) (g5 := g5) (r := r) (p := p) (W := wq) hHeld
    refine wpAnyH_ready (rs := [31]) (by kernel_rfl) (by simp) ?_
    refine AllReadyH.cons (o := { dst := some 99, op := Go.Op.call { callee := Go.Callee.value (Go.Operand.func 21), args := #[Go.Operand.tmp 96, Go.Operand.tmp 97, Go.Operand.tmp 98], argTypes := #[33, 34, 22] }, type := 4, pos := "law.go:162", after := #[{ on := 28, ground := Go.Ground.data }, { on := 29, ground := Go.Ground.data }, { on := 30, ground := Go.Ground.data }, { on := 27, ground := Go.Ground.chain }, { on := 27, ground := Go.Ground.guard }], guard := some (27, true) }) rfl (fun K' hK => ?_) AllReadyH.nil
    go_simp
    go_at_call 21
    with_reducible refine Calls.mono (HAF.out _ hbq9) ?_
    rintro e w931 ⟨rfl, hb⟩
    try go_wp2_with fail
    refine hK.out _ _ (V7.go (gb := w.heap.size) (g5 := g5) (r := r) (p := p) (W := wq) (by assumption) hb) (fun hHeld2 => ?_)
    clear hK K' hHeld hb hbq9
    have hHeld := hHeld2; clear hHeld2
    try simp only [Act.put, List.setIfInBounds_toArray, List.set_cons_zero, List.set_cons_succ]
    refine wpAnyH_take (i := 32) (oi := { dst := some 100, op := Go.Op.pick (Go.Operand.tmp 95) (Go.Operand.tmp 99) (Go.Operand.const (Go.Value.bool false)), type := 4, pos := "law.go:162", after := #[{ on := 27, ground := Go.Ground.data }, { on := 31, ground := Go.Ground.data }], guard := none }) (v := ?_) rfl (by kernel_rfl) (by kernel_rfl) (by kernel_rfl) (fun _ _ _ h => h) (Or.inl ⟨by rfl, ?_⟩) (by assumption) ?_
    rotate_left
    · (intro w hSw; (try dsimp only at hSw); go_simp); try with_reducible rfl
    try simp only [Act.put, List.setIfInBounds_toArray, List.set_cons_zero, List.set_cons_succ]
    refine wpAnyH_take (i := 33) (oi := { dst := some 6, op := Go.Op.assign (Go.Operand.tmp 100), type := 4, pos := "law.go:162", after := #[{ on := 32, ground := Go.Ground.data }, { on := 31, ground := Go.Ground.chain }, { on := 0, ground := Go.Ground.phase }, { on := 1, ground := Go.Ground.phase }, { on := 2, ground := Go.Ground.phase }, { on := 3, ground := Go.Ground.phase }, { on := 4, ground := Go.Ground.phase }, { on := 5, ground := Go.Ground.phase }, { on := 6, ground := Go.Ground.phase }, { on := 7, ground := Go.Ground.phase }, { on := 8, ground := Go.Ground.phase }, { on := 9, ground := Go.Ground.phase }, { on := 10, ground := Go.Ground.phase }, { on := 11, ground := Go.Ground.phase }, { on := 12, ground := Go.Ground.phase }, { on := 13, ground := Go.Ground.phase }, { on := 14, ground := Go.Ground.phase }, { on := 15, ground := Go.Ground.phase }, { on := 16, ground := Go.Ground.phase }, { on := 17, ground := Go.Ground.phase }, { on := 18, ground := Go.Ground.phase }, { on := 19, ground := Go.Ground.phase }, { on := 20, ground := Go.Ground.phase }, { on := 21, ground := Go.Ground.phase }, { on := 22, ground := Go.Ground.phase }, { on := 23, ground := Go.Ground.phase }, { on := 24, ground := Go.Ground.phase }, { on := 25, ground := Go.Ground.phase }, { on := 26, ground := Go.Ground.phase }, { on := 27, ground := Go.Ground.phase }, { on := 28, ground := Go.Ground.phase }, { on := 29, ground := Go.Ground.phase }, { on := 30, ground := Go.Ground.phase }, { on := 31, ground := Go.Ground.phase }, { on := 32, ground := Go.Ground.phase }], guard := none }) (v := ?_) rfl (by kernel_rfl) (by kernel_rfl) (by kernel_rfl) (fun _ _ _ h => h) (Or.inl ⟨by rfl, ?_⟩) (by assumption) ?_
    rotate_left
    · (intro w hSw; (try dsimp only at hSw); go_simp); try with_reducible rfl
    try simp only [Act.put, List.setIfInBounds_toArray, List.set_cons_zero, List.set_cons_succ]
    refine wpAnyH_done (by kernel_rfl) ?_ _
    have hbq := Lib.hid (K.out.b.trans ((V7.bel (gb := w.heap.size) (g5 := g5) (r := r) (p := p) (W := wq) hHeld).mono K.out.b.size))
    clear hHeld
    go_wp2_with fail
    go_ret
    exact ⟨rfl, hbq.out⟩
  · rw [show capS F = ([], 6) from if_neg cq] at HBF
    refine (HBF.out _ _ _ HS3.out).mono ?_
    rintro e w7 ⟨A6, c6, rfl, hs6, hb⟩
    replace K := Lib.hid (K.out.go hb)
    replace HS3 := Lib.hid (HS3.out.below hb)
    replace HP := Lib.hid (HP.out.below hb)
    clear p0 p1 p2 pl
    clear hs6
    clear hb
    go_wp2_with fail
    go_ret
    exact ⟨rfl, K.out.b⟩
theorem firsts_walk (r : Rc) (A : Option Addr) (cap : Nat) (l : List Pl) (A2 : Option Addr) (c2 : Nat) (s : List Bx) (w : World) (h0 : PlRow w A l) (h1 : l.length ≤ cap) (h2 : cap ≤ 9223372036854775807) (hb : BIn w A2 c2 s) :
    Calls Tryz.prog 6 #[.agg #[.int .i64 r.X0, .int .i64 r.Y0, .int .i64 r.X1, .int .i64 r.Y1], .slice A l.length cap, .slice A2 s.length c2] w (BlIs true w) := by
  by_cases hn : l.length ≤ 12 ∧ s.length ≤ 12
  · have hl : PlIn w A cap l := ⟨h0, by omega, h1, h2⟩
    by_cases hc : ArgOk r l
    · by_cases hk : ∀ b ∈ s, BOk b
      · have hof := ofS_small hk (by omega)
        have hS := solB_small hk (by omega)
        by_cases ha : AllB r l (solB s)
        · exact firsts_all r A cap l A2 c2 s w hl hn hb.row hc _ 0 (Or.inl rfl) hof hS ha
        · obtain ⟨p, hp⟩ := first_some hS ha
          exact firsts_some r A cap l A2 c2 s w hl hn hb.row hc _ hof hS p hp
      · have hof := ofS_bad hk
        exact firsts_all r A cap l A2 c2 s w hl hn hb.row hc [] 1 (Or.inr rfl) hof ⟨trivial, by simp, fun s hs => by cases hs⟩ (fun x y z h => by obtain ⟨q, hq, _⟩ := h; cases hq)
    · exact firsts_arg r A cap l A2 c2 s w hl hn hc
  · exact firsts_many r A cap l A2 c2 s w hn
end Go.Proofs.YtppomhgknhmceaaGreat
