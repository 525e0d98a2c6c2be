/-
  Mathematics of the laws of layer 9: what stays small.
  Mathematics of the laws of layer 11: what Blocked and Ray say of a solid's cubes; unions, steps, multiples, moves, samples.
  Contracts of the program's layer 9, 5: join.
  Plain mathematics of regions (5): the reference's way to a column: intervals in the order of their beginnings, then merged.
  Plain mathematics of regions (6): the reference's loop over the edges, step by step: the column before, and the rectangles of the slab that ends here.
  Plain mathematics of regions (7): the reference's loops in column: an interval put into its place by moving up those that begin later; intervals merged one by one.
  Plain mathematics of regions (8): the reference's Form, round by round; how long its columns are.
-/
import Derived.Test.YtdnoadngfkiabaaP901
import Derived.Test.YtdnoadngfkiabaaP917
import Derived.Test.YtdnoadngfkiabaaP905
import Derived.Test.YtdnoadngfkiabaaP913
import Derived.Deep.AppendLies
import Derived.Test.YtdnoadngfkiabaaP900
set_option linter.unusedVariables false
set_option maxRecDepth 100000
namespace Go.Proofs.Ytdnoadngfkiabaa

theorem in_sol {S : List Sl} (h : SForm S) {s : Sl} (hs : s ∈ S) : s.ar = secS S s.z0 := by
  have := (h.each s hs).h.2.1
  exact (sec_at h s hs s.z0 (Int.le_refl _) this).symm
/-- the solid of a few boxes is not too large. -/
theorem solB_small {l : List Bx} (h : ∀ b ∈ l, BOk b) (hl : l.length ≤ 14) : SolP (solB l) := by
  obtain ⟨f1, f2⟩ := solB_is h
  refine ⟨f1, by have := solB_len l; omega, fun s hs => ?_⟩
  rw [in_sol f1 hs, f2]
  unfold secB
  have h1 := form_sq (bases_ok h s.z0)
  have h2 := bases_len l s.z0
  have h3 : (basesB l s.z0).length * (basesB l s.z0).length ≤ 14 * 14 := Nat.mul_le_mul (by omega) (by omega)
  omega
theorem ofS_small {l : List Bx} (h : ∀ b ∈ l, BOk b) (hl : l.length ≤ 14) : ofS l = (solB l, 0) := by
  unfold ofS
  rw [if_pos h, if_pos (by omega)]
  exact (solB_small h hl).cap
theorem ofS_bad {l : List Bx} (h : ¬ ∀ b ∈ l, BOk b) : ofS l = ([], 1) := if_neg h
end Go.Proofs.Ytdnoadngfkiabaa
namespace Go.Proofs.Ytdnoadngfkiabaa
open Go.RowKit

def cubS (S : List Sl) (x y z : Int) : Prop := HasL (secS S z) x y
theorem ry_iff {S : List Sl} (h : SolP S) (p d : V3) : ryB S p d = true ↔ PtOk p ∧ DiOk d ∧ RayP (cubS S) p d := by
  unfold ryB
  rw [solPB_yes h, Bool.true_and, Bool.and_eq_true, Bool.and_eq_true, decide_eq_true_iff, decide_eq_true_iff, ray_iff (boxes_ok h.form), RayP.congr (fun x y z => boxes_has h.form x y z)]
  exact Iff.rfl
/-! ### unions -/
theorem ry_or {a b u : List Sl} (ha : SolP a) (hb : SolP b) (hu : SolP u) (h : ∀ x y z, cubS u x y z ↔ cubS a x y z ∨ cubS b x y z) (p q : V3) : ryB u p q = (ryB a p q || ryB b p q) := by
  rw [Bool.eq_iff_iff, Bool.or_eq_true, ry_iff ha, ry_iff hb, ry_iff hu, RayP.congr h, ray_or]
  constructor
  · rintro ⟨x, y, k | k⟩
    · exact Or.inl ⟨x, y, k⟩
    · exact Or.inr ⟨x, y, k⟩
  · rintro (⟨x, y, k⟩ | ⟨x, y, k⟩)
    · exact ⟨x, y, Or.inl k⟩
    · exact ⟨x, y, Or.inr k⟩
/-! ### steps -/
theorem mul_between {k N s : Int} (h0 : 0 ≤ k) (h1 : k ≤ N) : (0 ≤ k * s ∧ k * s ≤ N * s) ∨ (N * s ≤ k * s ∧ k * s ≤ 0) := by
  rcases Int.le_total 0 s with c | c
  · exact Or.inl ⟨Int.mul_nonneg h0 c, Int.mul_le_mul_of_nonneg_right h1 c⟩
  · right
    have a := Int.mul_nonneg h0 (show 0 ≤ -s by omega)
    have b := Int.mul_le_mul_of_nonneg_right h1 (show 0 ≤ -s by omega)
    rw [Int.mul_neg] at a
    rw [Int.mul_neg, Int.mul_neg] at b
    omega
/-! ### multiples -/
theorem mul_zero11 {k a : Int} (hk : 1 ≤ k) : k * a = 0 ↔ a = 0 := by
  constructor
  · intro h
    rcases Int.mul_eq_zero.1 h with h | h
    · omega
    · exact h
  · intro h; rw [h, Int.mul_zero]
theorem mul_rng {k a b : Int} (h1 : 1 ≤ k) (h2 : k ≤ 40) (ha : -b ≤ a ∧ a ≤ b) : -(40 * b) ≤ k * a ∧ k * a ≤ 40 * b := by
  rcases mul_between (s := a) (show (0 : Int) ≤ k by omega) h2 with h | h <;> omega
theorem rays_eq {S : List Sl} (h : SolP S) {p d : V3} {k : Int} (hp : PtOk p) (h1 : 1 ≤ k) (h2 : k ≤ 40) (hx : -1000 ≤ d.x ∧ d.x ≤ 1000) (hy : -1000 ≤ d.y ∧ d.y ≤ 1000) (hz : -1000 ≤ d.z ∧ d.z ≤ 1000) : ryB S p (d.mul k) = ryB S p d := by
  have e : DiOk (d.mul k) ↔ DiOk d := by
    have mx := mul_rng h1 h2 hx
    have my := mul_rng h1 h2 hy
    have mz := mul_rng h1 h2 hz
    have nx := mul_zero11 (k := k) (a := d.x) h1
    have ny := mul_zero11 (k := k) (a := d.y) h1
    have nz := mul_zero11 (k := k) (a := d.z) h1
    unfold DiOk V3.mul
    simp only [ne_eq, nx, ny, nz]
    exact ⟨fun h => ⟨h.1, by omega, by omega, by omega⟩, fun h => ⟨h.1, by omega, by omega, by omega⟩⟩
  rw [Bool.eq_iff_iff, ry_iff h, ry_iff h, ray_mul p d h1, e]
/-! ### moves -/
theorem move_cub {b : V3} {l : List Bx} (h : ∀ k ∈ l, BOk k) (h2 : ∀ k ∈ l, BOk (mvX b k)) (x y z : Int) : cubS (solB (l.map (mvX b))) (x + b.x) (y + b.y) (z + b.z) ↔ cubS (solB l) x y z := by
  have h3 : ∀ k ∈ l.map (mvX b), BOk k := fun k hk => by
    obtain ⟨q, hq, rfl⟩ := List.mem_map.1 hk
    exact h2 q hq
  exact ((cs_b h3).cubes _ _ _).trans ((mv_hasB h h2 x y z).trans ((cs_b h).cubes x y z).symm)
theorem ry_move {S T : List Sl} (hS : SolP S) (hT : SolP T) {b : V3} (h : ∀ x y z, cubS T (x + b.x) (y + b.y) (z + b.z) ↔ cubS S x y z) {p d : V3} (hp : PtOk p) (hp2 : PtOk (p.add b)) : ryB S p d = ryB T (p.add b) d := by
  rw [Bool.eq_iff_iff, ry_iff hS, ry_iff hT, ray_move b h]
  exact ⟨fun k => ⟨hp2, k.2⟩, fun k => ⟨hp, k.2⟩⟩
/-! ### samples -/
end Go.Proofs.Ytdnoadngfkiabaa
namespace Go.Proofs.Ytdnoadngfkiabaa
open Go.RowKit

theorem own_dn {w : World} {B e size n : Nat} {v : Value} {xs : List Value} (h : w.ownsRow B e size v n xs) (q : Nat) (o : Obj) : ((w.drewN q).alloc o).ownsRow B e size v n xs := (own_go h (below_drewN (Below.refl _ _) q)).alloc o
theorem news3 (W : World) (k : Nat) (hk : k = W.heap.size) (a b c : Value) (t : TypeId) : ∀ j u, [a, b, c][j]? = some u → (W.alloc (.cells #[a, b, c] t)).cell? ((⟨k, 0, none⟩ : Addr).add j) = some u := by
  subst hk
  exact World.news_of_block (cs := #[a, b, c]) (t := t) (fr := (0, 0)) (heap_alloc_new W _)
def JoinIs (L : List SlV) (t : SlV) (w0 w : World) (e : Ending) (w' : World) : Prop := ∃ v' L', e = .returned v' ∧ svS L' = joinS (svS L) t.s ∧ SW v' L' w0 w'
/-- the last slab of the row, the next one at a block. -/
def Jy (p g o : Nat) (u v : SlV) (w0 w : World) : Prop := w.cell? ⟨p, 0, none⟩ = some (.int .i64 u.s.z0) ∧ w.cell? ⟨p, 1, none⟩ = some (.int .i64 u.s.z1) ∧ w.cell? ⟨p, 2, none⟩ = some (.slice u.A u.s.ar.length u.c) ∧ w.cell? ⟨g, o, none⟩ = some (.int .i64 v.s.z0) ∧ w.cell? ⟨g, o + 1, none⟩ = some (.int .i64 v.s.z1) ∧ w.cell? ⟨g, o + 2, none⟩ = some (.slice v.A v.s.ar.length v.c) ∧ p < w.heap.size ∧ g < w.heap.size ∧ Hid (Below w0.heap.size w0 w)
theorem Jy.go {p g o : Nat} {u v : SlV} {w0 w w' : World} (h : Jy p g o u v w0 w) (hb : Below w.heap.size w w') : Jy p g o u v w0 w' := by
  obtain ⟨h0, h1, h2, h3, h4, h5, h6, h7, h8⟩ := h
  have cp := fun i => hb.cell (p := ⟨p, i, none⟩) h6
  have cb := fun i => hb.cell (p := ⟨g, i, none⟩) h7
  exact ⟨(cp _).trans h0, (cp _).trans h1, (cp _).trans h2, (cb _).trans h3, (cb _).trans h4, (cb _).trans h5, Nat.lt_of_lt_of_le h6 hb.size, Nat.lt_of_lt_of_le h7 hb.size, Lib.hid (h8.out.trans (hb.mono h8.out.size))⟩
theorem Jy.drewN {p g o : Nat} {u v : SlV} {w0 w : World} (h : Jy p g o u v w0 w) (n : Nat) : Jy p g o u v w0 (w.drewN n) := h.go (below_drewN (Below.refl _ _) n)
theorem SlAt.froz {w : World} {p : Nat} {u : Sl} {A : Option Addr} {c : Nat} (h : SlAt w p u A c) (i : Nat) : w.frozen? ⟨p, i, none⟩ = false := Lib.frozen_of_heap h i
set_option maxHeartbeats 40000000 in
theorem bjoin_any (L : List SlV) (v : Value) (t : SlV) (w0 w : World) (h : SW v L w0 w) (ht : w.ownsRow w0.heap.size 43 4 (.slice t.A t.s.ar.length t.c) t.s.ar.length (rcells t.s.ar)) (hL : L.length ≤ 80) (hla : ∀ u ∈ L, u.s.ar.length ≤ 200) (hta : t.s.ar.length ≤ 200) :
    Calls Try.prog 52 #[v, .agg #[.int .i64 t.s.z0, .int .i64 t.s.z1, .slice t.A t.s.ar.length t.c]] w (JoinIs L t w0 w) := by
  have HSA := Lib.hid (SlAt.new w t.s t.A t.c t.s.ar.length rfl)
  have hal : Below w.heap.size w (w.alloc (.cells #[.int .i64 t.s.z0, .int .i64 t.s.z1, .slice t.A t.s.ar.length t.c] 50)) := (Below.refl _ _).alloc (Nat.le_refl _) _
  have HAL := Lib.hid hal
  have HW := Lib.hid (h.go hal)
  have HT := Lib.hid (own_go ht hal)
  have hbs := h.bel.size
  obtain ⟨i0, hi9, hz0, hz1, hz2⟩ := info_parts infoSlab
  by_cases h0 : t.s.ar = []
  · have e0 : t.s.ar.length = 0 := by rw [h0]; rfl
    have FIN : Hid (JoinIs L t w0 w (.returned v) (w.alloc (.cells #[.int .i64 t.s.z0, .int .i64 t.s.z1, .slice t.A t.s.ar.length t.c] 50))) := Lib.hid ⟨v, L, rfl, (join_none h0).symm, HW.out⟩
    rw [e0] at FIN ⊢
    clear HSA hal HAL HW HT h ht hi9 hz0 hz1 hz2 h0 hla hta e0
    go_enter Try.func52, Try.ntmps52
    go_wp2_with fail
    go_ret
    exact FIN.out
  · have z1 : ((t.s.ar.length : Int) == 0) = false := by simp; exact h0
    have H0 := Lib.hid h0
    clear hal
    rcases List.eq_nil_or_concat L with hL0 | ⟨G, p, hGp⟩
    · subst hL0
      obtain ⟨A, cap, rfl, _, _, _⟩ := h.cells
      have HOWN := Lib.hid HW.out.own
      clear h ht hla
      have FIN : Hid (∀ w1 v' w', Below (w.alloc (.cells #[.int .i64 t.s.z0, .int .i64 t.s.z1, .slice t.A t.s.ar.length t.c] 50)).heap.size (w.alloc (.cells #[.int .i64 t.s.z0, .int .i64 t.s.z1, .slice t.A t.s.ar.length t.c] 50)) w1 → w'.ownsRow w0.heap.size 50 3 v' (0 + 1) (svcells [] ++ svc t) → w1.grownBy w' (Value.ownBlock (.slice A 0 cap)) → JoinIs [] t w0 w (.returned v') w') := Lib.hid (fun w1 v' w' hb ho hg => ⟨v', [] ++ [t], rfl, (by simp only [svS, List.nil_append, List.map_cons, List.map_nil]; exact (join_first H0.out).symm), (HW.out.go hb).app (own_go HT.out hb) ho hg⟩)
      have hsa := HSA.out
      have y0 := fun q => (below_drewN (Below.refl (w.alloc (.cells #[.int .i64 t.s.z0, .int .i64 t.s.z1, .slice t.A t.s.ar.length t.c] 50)).heap.size (w.alloc (.cells #[.int .i64 t.s.z0, .int .i64 t.s.z1, .slice t.A t.s.ar.length t.c] 50))) q).cell (p := ⟨w.heap.size, 0, none⟩) hsa.lt |>.trans hsa.c0
      have y1 := fun q => (below_drewN (Below.refl (w.alloc (.cells #[.int .i64 t.s.z0, .int .i64 t.s.z1, .slice t.A t.s.ar.length t.c] 50)).heap.size (w.alloc (.cells #[.int .i64 t.s.z0, .int .i64 t.s.z1, .slice t.A t.s.ar.length t.c] 50))) q).cell (p := ⟨w.heap.size, 1, none⟩) hsa.lt |>.trans hsa.c1
      have y2 := fun q => (below_drewN (Below.refl (w.alloc (.cells #[.int .i64 t.s.z0, .int .i64 t.s.z1, .slice t.A t.s.ar.length t.c] 50)).heap.size (w.alloc (.cells #[.int .i64 t.s.z0, .int .i64 t.s.z1, .slice t.A t.s.ar.length t.c] 50))) q).cell (p := ⟨w.heap.size, 2, none⟩) hsa.lt |>.trans hsa.c2
      have yl := hsa.lt
      clear hsa
      show Calls Try.prog 52 #[.slice A 0 cap, .agg #[.int .i64 t.s.z0, .int .i64 t.s.z1, .slice t.A t.s.ar.length t.c]] w (JoinIs [] t w0 w)
      go_enter Try.func52, Try.ntmps52
      go_wp2_with fail
      go_quiet (fail)
      go_wp2_with (at_builtin; refine wpList_append_own _ rfl _ _ 23 rfl w0.heap.size 50 i0 (.agg #[.int .i64 0, .int .i64 0, .slice none 0 0]) 3 40 Try.underlying23 hi9 hz0 hz1 hz2 rfl (by decide) _ _ _ rfl (own_dn HOWN.out _ _) ⟨w.heap.size + 1, 0, none⟩ 1 1 [.int .i64 t.s.z0, .int .i64 t.s.z1, .slice t.A t.s.ar.length t.c] rfl rfl ?c1 ?c2 ?c3 ?c4 ?c5 ?_)
      case c1 => exact news3 _ _ (by simp) _ _ _ _
      case c2 => intro u hu; simp only [List.mem_cons, List.not_mem_nil, or_false] at hu; rcases hu with rfl | rfl | rfl <;> rfl
      case c3 => unfold maxLen; omega
      case c4 => omega
      case c5 => simp; omega
      intro v' w4 hown' hgr _
      have FX := Lib.hid (FIN.out _ v' w4 ((below_drewN (Below.refl _ _) _).alloc (by simp) _) hown' hgr)
      clear hown' hgr
      go_wp2_with fail
      go_ret
      exact FX.out
    · rw [List.concat_eq_append] at hGp
      subst hGp
      obtain ⟨A, cap, rfl, _, _, hA⟩ := HW.out.cells
      obtain ⟨g, rfl, hg0, hg1, hgc⟩ := hA (by simp)
      obtain ⟨q0, q1, q2⟩ := hgc G.length (by simp)
      have ep : (G ++ [p])[G.length]'(by simp) = p := by simp
      rw [ep] at q0 q1 q2
      have hsa := HSA.out
      have E0 : Hid (Jy w.heap.size g (G.length * 3) t p (w.alloc (.cells #[.int .i64 t.s.z0, .int .i64 t.s.z1, .slice t.A t.s.ar.length t.c] 50)) (w.alloc (.cells #[.int .i64 t.s.z0, .int .i64 t.s.z1, .slice t.A t.s.ar.length t.c] 50))) := Lib.hid ⟨hsa.c0, hsa.c1, hsa.c2, q0, q1, q2, hsa.lt, hg1, Lib.hid (Below.refl _ _)⟩
      have HLEN : Hid ((G ++ [p]).length = G.length + 1) := Lib.hid (by simp)
      have hGl : G.length ≤ 79 := by have := HLEN.out; omega
      have HPR := Lib.hid (own_rin (HW.out.ar p (by simp)) (by have := hla p (by simp); omega))
      have HTR := Lib.hid (own_rin HT.out (by omega))
      have HPL := Lib.hid (hla p (by simp))
      have HTL := Lib.hid hta
      have r1 : IntKind.i64.wrap (G.length : Int) = (G.length : Int) := IntWalk.i64_in _ (by omega)
      have m0 : (0 : Int) ≤ (G.length : Int) := by omega
      have m1 : (G.length : Int) < (G.length : Int) + 1 := by omega
      have HMN : Hid (∀ u ∈ G ++ [p], True) := Lib.hid (fun _ _ => trivial)
      rw [HLEN.out]
      clear h ht hla hta hgc ep hsa hL q0 q1 q2
      by_cases ce : p.s.z1 = t.s.z0 ∧ p.s.ar = t.s.ar
      · have dc : decide (p.s.z1 = t.s.z0 ∧ p.s.ar = t.s.ar) = true := decide_eq_true ce
        have HCO : Hid (∀ w', Jy w.heap.size g (G.length * 3) t p (w.alloc (.cells #[.int .i64 t.s.z0, .int .i64 t.s.z1, .slice t.A t.s.ar.length t.c] 50)) w' → Calls Try.prog 44 #[.agg #[.int .i64 p.s.z0, .int .i64 p.s.z1, .slice p.A p.s.ar.length p.c], .agg #[.int .i64 t.s.z0, .int .i64 t.s.z1, .slice t.A t.s.ar.length t.c]] w' (BlIs true w')) := Lib.hid (fun w' hj => by
          have hb := hj.2.2.2.2.2.2.2.2.out
          have := bcont_any p.s.z0 p.s.z1 t.s.z0 t.s.z1 p.A p.c t.A t.c p.s.ar t.s.ar w' (HPR.out.below hb).row (HTR.out.below hb).row (by have := HPL.out; omega) (by have := HTL.out; omega)
          rw [dc] at this; exact this)
        have FIN : Hid (∀ w', Below (w.alloc (.cells #[.int .i64 t.s.z0, .int .i64 t.s.z1, .slice t.A t.s.ar.length t.c] 50)).heap.size (w.alloc (.cells #[.int .i64 t.s.z0, .int .i64 t.s.z1, .slice t.A t.s.ar.length t.c] 50)) w' → JoinIs (G ++ [p]) t w0 w (.returned (.slice (some ⟨g, 0, none⟩) (G.length + 1) cap)) (w'.setCell ⟨g, G.length * 3 + 1, none⟩ (.int .i64 t.s.z1))) := Lib.hid (fun w' hb => ⟨_, G ++ [⟨⟨p.s.z0, t.s.z1, p.s.ar⟩, p.A, p.c⟩], rfl, (by
          rw [svS_append, svS_append]
          exact (join_wide H0.out ce.1 ce.2).symm), (by
          have hw := HW.out.go hb
          rw [HLEN.out] at hw
          exact hw.setz rfl _)⟩)
        have HFZ : Hid (∀ w', Below (w.alloc (.cells #[.int .i64 t.s.z0, .int .i64 t.s.z1, .slice t.A t.s.ar.length t.c] 50)).heap.size (w.alloc (.cells #[.int .i64 t.s.z0, .int .i64 t.s.z1, .slice t.A t.s.ar.length t.c] 50)) w' → w'.frozen? ⟨g, G.length * 3 + 1, none⟩ = false) := Lib.hid (fun w' hb => (HW.out.go hb).own.frozenAt _)
        clear dc ce HPR HTR HPL HTL HT HW HMN
        obtain ⟨m, hm⟩ : ∃ m, m = G.length := ⟨_, rfl⟩
        rw [← hm] at E0 HCO FIN HFZ r1 m0 m1 hGl ⊢
        clear hm HLEN
        go_enter Try.func52, Try.ntmps52
        go_wp2_with fail
        go_region_held3 (fun w' => w'.cell? ⟨w.heap.size, 0, none⟩ = some (.int .i64 t.s.z0) ∧ w'.cell? ⟨w.heap.size, 1, none⟩ = some (.int .i64 t.s.z1) ∧ w'.cell? ⟨w.heap.size, 2, none⟩ = some (.slice t.A t.s.ar.length t.c) ∧ w'.cell? ⟨g, m * 3, none⟩ = some (.int .i64 p.s.z0) ∧ w'.cell? ⟨g, m * 3 + 1, none⟩ = some (.int .i64 p.s.z1) ∧ w'.cell? ⟨g, m * 3 + 2, none⟩ = some (.slice p.A p.s.ar.length p.c) ∧ w.heap.size < w'.heap.size ∧ g < w'.heap.size ∧ Hid (Below (w.alloc (.cells #[.int .i64 t.s.z0, .int .i64 t.s.z1, .slice t.A t.s.ar.length t.c] 50)).heap.size (w.alloc (.cells #[.int .i64 t.s.z0, .int .i64 t.s.z1, .slice t.A t.s.ar.length t.c] 50)) w'))
          (first | exact E0.out | exact Jy.drewN E0.out 1 | exact Jy.go ‹_› ‹_› | assumption)
          (first | (go_at_call 44; refine (HCO.out _ ?_).mono ?_; (first | assumption | exact Jy.drewN E0.out 1); rintro e w' ⟨rfl, hb⟩) | fail)
        have E2 : Jy w.heap.size g (m * 3) t p (w.alloc (.cells #[.int .i64 t.s.z0, .int .i64 t.s.z1, .slice t.A t.s.ar.length t.c] 50)) w' := by assumption
        have FX := Lib.hid (FIN.out _ E2.2.2.2.2.2.2.2.2.out)
        have f0 := HFZ.out _ E2.2.2.2.2.2.2.2.2.out
        have y1 := E2.2.1; have q1 := E2.2.2.2.2.1; have yl := E2.2.2.2.2.2.2.1; have ql := E2.2.2.2.2.2.2.2.1
        clear E0 E2 FIN HFZ HCO
        go_wp2_with fail
        go_ret
        exact FX.out
      · have dc : decide (p.s.z1 = t.s.z0 ∧ p.s.ar = t.s.ar) = false := decide_eq_false ce
        have HCO : Hid (∀ w', Jy w.heap.size g (G.length * 3) t p (w.alloc (.cells #[.int .i64 t.s.z0, .int .i64 t.s.z1, .slice t.A t.s.ar.length t.c] 50)) w' → Calls Try.prog 44 #[.agg #[.int .i64 p.s.z0, .int .i64 p.s.z1, .slice p.A p.s.ar.length p.c], .agg #[.int .i64 t.s.z0, .int .i64 t.s.z1, .slice t.A t.s.ar.length t.c]] w' (BlIs false w')) := Lib.hid (fun w' hj => by
          have hb := hj.2.2.2.2.2.2.2.2.out
          have := bcont_any p.s.z0 p.s.z1 t.s.z0 t.s.z1 p.A p.c t.A t.c p.s.ar t.s.ar w' (HPR.out.below hb).row (HTR.out.below hb).row (by have := HPL.out; omega) (by have := HTL.out; omega)
          rw [dc] at this; exact this)
        have FIN : Hid (∀ w1 v' w', Below (w.alloc (.cells #[.int .i64 t.s.z0, .int .i64 t.s.z1, .slice t.A t.s.ar.length t.c] 50)).heap.size (w.alloc (.cells #[.int .i64 t.s.z0, .int .i64 t.s.z1, .slice t.A t.s.ar.length t.c] 50)) w1 → w'.ownsRow w0.heap.size 50 3 v' (G.length + 1 + 1) (svcells (G ++ [p]) ++ svc t) → w1.grownBy w' (Value.ownBlock (.slice (some ⟨g, 0, none⟩) (G.length + 1) cap)) → JoinIs (G ++ [p]) t w0 w (.returned v') w') := Lib.hid (fun w1 v' w' hb ho hg => ⟨v', (G ++ [p]) ++ [t], rfl, (by
          rw [svS_append, svS_append]
          exact (join_new H0.out ce).symm), (HW.out.go hb).app (own_go HT.out hb) (by rw [HLEN.out]; exact ho) (by rw [HLEN.out] ; exact hg)⟩)
        have HOWN : Hid (∀ w', Below (w.alloc (.cells #[.int .i64 t.s.z0, .int .i64 t.s.z1, .slice t.A t.s.ar.length t.c] 50)).heap.size (w.alloc (.cells #[.int .i64 t.s.z0, .int .i64 t.s.z1, .slice t.A t.s.ar.length t.c] 50)) w' → w'.ownsRow w0.heap.size 50 3 (.slice (some ⟨g, 0, none⟩) (G.length + 1) cap) (G.length + 1) (svcells (G ++ [p]))) := Lib.hid (fun w' hb => by
          have := (HW.out.go hb).own
          rw [HLEN.out] at this; exact this)
        clear dc ce HPR HTR HPL HTL HT HW HMN
        obtain ⟨C, hC⟩ : ∃ C, C = svcells (G ++ [p]) := ⟨_, rfl⟩
        rw [← hC] at FIN HOWN
        clear hC
        obtain ⟨m, hm⟩ : ∃ m, m = G.length := ⟨_, rfl⟩
        rw [← hm] at E0 HCO FIN HOWN r1 m0 m1 hGl ⊢
        clear hm HLEN
        go_enter Try.func52, Try.ntmps52
        go_wp2_with fail
        go_region_held3 (fun w' => w'.cell? ⟨w.heap.size, 0, none⟩ = some (.int .i64 t.s.z0) ∧ w'.cell? ⟨w.heap.size, 1, none⟩ = some (.int .i64 t.s.z1) ∧ w'.cell? ⟨w.heap.size, 2, none⟩ = some (.slice t.A t.s.ar.length t.c) ∧ w'.cell? ⟨g, m * 3, none⟩ = some (.int .i64 p.s.z0) ∧ w'.cell? ⟨g, m * 3 + 1, none⟩ = some (.int .i64 p.s.z1) ∧ w'.cell? ⟨g, m * 3 + 2, none⟩ = some (.slice p.A p.s.ar.length p.c) ∧ w.heap.size < w'.heap.size ∧ g < w'.heap.size ∧ Hid (Below (w.alloc (.cells #[.int .i64 t.s.z0, .int .i64 t.s.z1, .slice t.A t.s.ar.length t.c] 50)).heap.size (w.alloc (.cells #[.int .i64 t.s.z0, .int .i64 t.s.z1, .slice t.A t.s.ar.length t.c] 50)) w'))
          (first | exact E0.out | exact Jy.drewN E0.out 1 | exact Jy.go ‹_› ‹_› | assumption)
          (first | (go_at_call 44; refine (HCO.out _ ?_).mono ?_; (first | assumption | exact Jy.drewN E0.out 1); rintro e w' ⟨rfl, hb⟩) | fail)
        have E2 : Jy w.heap.size g (m * 3) t p (w.alloc (.cells #[.int .i64 t.s.z0, .int .i64 t.s.z1, .slice t.A t.s.ar.length t.c] 50)) w' := by assumption
        have HBX := E2.2.2.2.2.2.2.2.2
        have HOX := Lib.hid (HOWN.out _ HBX.out)
        have y0 := E2.1; have y1 := E2.2.1; have y2 := E2.2.2.1; have yl := E2.2.2.2.2.2.2.1
        have hbz := HBX.out.size
        have hbz2 : w0.heap.size ≤ w'.heap.size := by simp at hbz; omega
        clear E0 E2 HCO HOWN hbz
        go_wp2_with (at_builtin; refine wpList_append_own _ rfl _ _ 23 rfl w0.heap.size 50 i0 (.agg #[.int .i64 0, .int .i64 0, .slice none 0 0]) 3 40 Try.underlying23 hi9 hz0 hz1 hz2 rfl (by decide) _ _ _ rfl (HOX.out.alloc _) ⟨w'.heap.size, 0, none⟩ 1 1 [.int .i64 t.s.z0, .int .i64 t.s.z1, .slice t.A t.s.ar.length t.c] rfl rfl ?d1 ?d2 ?d3 ?d4 ?d5 ?_)
        case d1 =>
          intro j u hj
          match j, hj with
          | 0, hj => simp at hj; subst hj; simp [Addr.add]
          | 1, hj => simp at hj; subst hj; simp [Addr.add]
          | 2, hj => simp at hj; subst hj; simp [Addr.add]
        case d2 => intro u hu; simp only [List.mem_cons, List.not_mem_nil, or_false] at hu; rcases hu with rfl | rfl | rfl <;> rfl
        case d3 => unfold maxLen; omega
        case d4 => omega
        case d5 => simp; omega
        intro v' w4 hown' hgr _
        have FX := Lib.hid (FIN.out _ v' w4 (HBX.out.alloc HBX.out.size _) hown' hgr)
        clear hown' hgr FIN
        go_wp2_with fail
        go_ret
        exact FX.out
end Go.Proofs.Ytdnoadngfkiabaa
namespace Go.Proofs.Ytdnoadngfkiabaa

/-- intervals in this order, merged; a to b is at hand. -/
def mergeGo (a b : Int) : List (Int × Int) → List Int
  | [] => [a, b]
  | q :: L => if q.1 ≤ b then mergeGo a (max b q.2) L else a :: b :: mergeGo q.1 q.2 L
def mergeI : List (Int × Int) → List Int
  | [] => []
  | q :: L => mergeGo q.1 q.2 L
end Go.Proofs.Ytdnoadngfkiabaa
namespace Go.Proofs.Ytdnoadngfkiabaa

/-- the loop stands at the edge a: the column before was `was`; a slab ends here exactly if that was not empty. -/
structure FormAt (S : List Slab) (was : List Int) (a : Int) : Prop where
  yes : was ≠ [] → ∃ T s, S = T ++ [s] ∧ s.t = was ∧ s.x1 = a
  no : was = [] → ∀ s, S.getLast? = some s → s.x1 < a
theorem formAt_start (a : Int) : FormAt [] [] a := ⟨fun h => absurd rfl h, fun _ s h => by simp at h⟩
theorem flatS_snoc (S : List Slab) (s : Slab) : flatS (S ++ [s]) = flatS S ++ rectsOf s.x0 s.x1 s.t := by simp [flatS]
theorem rects_wide (x0 x1 b : Int) (t : List Int) : (rectsOf x0 x1 t).map (fun r => (⟨r.X0, r.Y0, b, r.Y1⟩ : Rc)) = rectsOf x0 b t := by
  simp [rectsOf, List.map_map]
/-- the column is the one before: the last slab becomes wider. -/
theorem step_wide {S : List Slab} {was : List Int} {a b : Int} (h : FormAt S was a) (hne : was ≠ []) :
    ∃ T s, S = T ++ [s] ∧ s.t = was ∧ s.x1 = a ∧ stepF S a b was = T ++ [⟨s.x0, b, was⟩] ∧ flatS (stepF S a b was) = flatS T ++ (rectsOf s.x0 a was).map (fun r => (⟨r.X0, r.Y0, b, r.Y1⟩ : Rc)) ∧ flatS S = flatS T ++ rectsOf s.x0 a was ∧ FormAt (stepF S a b was) was b := by
  obtain ⟨T, s, rfl, e1, e2⟩ := h.yes hne
  have e : stepF (T ++ [s]) a b was = T ++ [⟨s.x0, b, was⟩] := by
    unfold stepF
    rw [if_neg hne]
    have hl : (T ++ [s]).getLast? = some s := by simp
    rw [hl]
    simp only []
    rw [if_pos ⟨e2, e1⟩, List.dropLast_concat]
  refine ⟨T, s, rfl, e1, e2, e, ?_, ?_, ?_⟩
  · rw [e, flatS_snoc, rects_wide]
  · rw [flatS_snoc, e2, e1]
  · rw [e]
    exact ⟨fun _ => ⟨T, _, rfl, rfl, rfl⟩, fun h0 => absurd h0 hne⟩
/-- another column: a new slab, if it is not empty. -/
theorem step_new {S : List Slab} {was c : List Int} {a b : Int} (h : FormAt S was a) (hab : a < b) (hg : Grown S a) (hc : c = [] ∨ c ≠ was) :
    stepF S a b c = (if c = [] then S else S ++ [⟨a, b, c⟩]) ∧ flatS (stepF S a b c) = flatS S ++ rectsOf a b c ∧ FormAt (stepF S a b c) c b := by
  have e : stepF S a b c = if c = [] then S else S ++ [⟨a, b, c⟩] := by
    unfold stepF
    by_cases h0 : c = []
    · rw [if_pos h0, if_pos h0]
    · rw [if_neg h0, if_neg h0]
      rcases List.eq_nil_or_concat S with rfl | ⟨T, s, rfl⟩
      · rfl
      · rw [List.concat_eq_append] at *
        have hl : (T ++ [s]).getLast? = some s := by simp
        rw [hl]
        simp only []
        rw [if_neg]
        rintro ⟨k1, k2⟩
        by_cases hw : was = []
        · have := h.no hw s hl; omega
        · obtain ⟨T', s', e1, e2, e3⟩ := h.yes hw
          have : s = s' := by
            have := congrArg List.getLast? e1
            simpa using this
          subst this
          rcases hc with hc | hc
          · exact h0 hc
          · exact hc (by rw [← k2, e2])
  refine ⟨e, ?_, ?_⟩
  · rw [e]
    by_cases h0 : c = []
    · rw [if_pos h0]; subst h0; simp [rectsOf, twos]
    · rw [if_neg h0, flatS_snoc]
  · rw [e]
    by_cases h0 : c = []
    · rw [if_pos h0]
      refine ⟨fun k => absurd h0 k, fun _ s hs => ?_⟩
      have := hg.to s (List.mem_of_getLast? hs)
      omega
    · rw [if_neg h0]
      exact ⟨fun _ => ⟨S, _, rfl, rfl, rfl⟩, fun k => absurd k h0⟩
/-- the slabs up to the k-th edge. -/
theorem growF_take (c : Int → List Int) : ∀ (E : List Int) (S : List Slab) (k : Nat) (h : k + 1 < E.length), growF c S (E.take (k + 2)) = stepF (growF c S (E.take (k + 1))) E[k] E[k + 1] (c E[k]) := by
  intro E
  induction E with
  | nil => intro S k h; simp at h
  | cons a E ih =>
    intro S k h
    match E, ih, h with
    | [], _, h => simp at h
    | b :: E, ih, h =>
      cases k with
      | zero => rfl
      | succ k =>
        have := ih (stepF S a b (c a)) k (by simp at h ⊢; omega)
        simpa [growF, List.take] using this
end Go.Proofs.Ytdnoadngfkiabaa
namespace Go.Proofs.Ytdnoadngfkiabaa

/-! ### merging -/
/-- what is merged after k of the intervals. -/
structure MergeAt (L : List (Int × Int)) (k : Nat) (out : List Int) : Prop where
  none : k = 0 → out = []
  some : 0 < k → ∃ D a b, out = D ++ [a, b] ∧ D ++ mergeGo a b (L.drop k) = mergeI L
theorem MergeAt.start (L : List (Int × Int)) : MergeAt L 0 [] := ⟨fun _ => rfl, fun h => absurd h (Nat.lt_irrefl _)⟩
theorem MergeAt.first {L : List (Int × Int)} {out : List Int} (h : MergeAt L 0 out) (hk : 0 < L.length) : MergeAt L 1 (out ++ [L[0].1, L[0].2]) := by
  rw [h.none rfl]
  refine ⟨fun h => (by omega), fun _ => ⟨[], L[0].1, L[0].2, rfl, ?_⟩⟩
  cases L with
  | nil => simp at hk
  | cons q L => rfl
theorem MergeAt.join {L : List (Int × Int)} {k : Nat} {D : List Int} {a b : Int} (he : D ++ mergeGo a b (L.drop k) = mergeI L) (hk : k < L.length) (hle : L[k].1 ≤ b) : MergeAt L (k + 1) (D ++ [a, max b L[k].2]) := by
  refine ⟨fun h => (by omega), fun _ => ⟨D, a, max b L[k].2, rfl, ?_⟩⟩
  rw [← he, List.drop_eq_getElem_cons hk]
  show _ = D ++ (if L[k].1 ≤ b then mergeGo a (max b L[k].2) (L.drop (k + 1)) else _)
  rw [if_pos hle]
theorem MergeAt.new {L : List (Int × Int)} {k : Nat} {D : List Int} {a b : Int} (he : D ++ mergeGo a b (L.drop k) = mergeI L) (hk : k < L.length) (hle : ¬ L[k].1 ≤ b) : MergeAt L (k + 1) (D ++ [a, b] ++ [L[k].1, L[k].2]) := by
  refine ⟨fun h => (by omega), fun _ => ⟨D ++ [a, b], L[k].1, L[k].2, rfl, ?_⟩⟩
  rw [← he, List.drop_eq_getElem_cons hk]
  show _ = D ++ (if L[k].1 ≤ b then _ else a :: b :: mergeGo L[k].1 L[k].2 (L.drop (k + 1)))
  rw [if_neg hle, List.append_assoc]; rfl
theorem MergeAt.done {L : List (Int × Int)} {out : List Int} (h : MergeAt L L.length out) : out = mergeI L := by
  cases L with
  | nil => exact h.none rfl
  | cons q L =>
    obtain ⟨D, a, b, rfl, he⟩ := h.some (by simp)
    rw [← he, List.drop_length]; rfl
end Go.Proofs.Ytdnoadngfkiabaa
namespace Go.Proofs.Ytdnoadngfkiabaa

/-- where Form's loop stands. -/
structure FmR (c : Int → List Int) (E : List Int) (k : Nat) (S : List Slab) (was : List Int) (last : Nat) : Prop where
  eq : S = growF c [] (E.take (k + 1))
  here : ∀ h : k < E.length, FormAt S was E[k] ∧ Grown S E[k]
  zero : k = 0 → was = []
  last : was ≠ [] → ∀ T s, S = T ++ [s] → last = (flatS T).length
theorem FmR.start (c : Int → List Int) (E : List Int) : FmR c E 0 [] [] 0 := by
  refine ⟨?_, fun h => ⟨formAt_start _, ⟨trivial, fun s hs => by cases hs⟩⟩, fun _ => rfl, fun h => absurd rfl h⟩
  cases E <;> rfl
section
variable {c : Int → List Int} {E : List Int} {k : Nat} {S : List Slab} {was : List Int} {last : Nat}
theorem FmR.span (hE : Asc E) (hG : InG E) (hk : k + 1 < E.length) : Span E[k] E[k + 1] := by
  have h : ∀ {t : List Int}, Asc t → ∀ {i : Nat} (h : i + 1 < t.length), t[i] < t[i + 1] := by
    intro t
    induction t with
    | nil => intro _ i h; simp at h
    | cons a t ih =>
      intro ha i h
      cases i with
      | zero => simp only [List.getElem_cons_zero, List.getElem_cons_succ]; exact ha.lt _ (List.getElem_mem _)
      | succ i => simp only [List.getElem_cons_succ]; exact ih ha.tail (by simpa using h)
  exact ⟨(hG _ (List.getElem_mem _)).1, h hE hk, (hG _ (List.getElem_mem _)).2⟩
theorem FmR.wide (h : FmR c E k S was last) (hk : k + 1 < E.length) (hE : Asc E) (hG : InG E) (hc : ∀ x, ColOk (c x)) (e : c E[k] = was) (hne : was ≠ []) :
    ∃ T R, flatS S = T ++ R ∧ last = T.length ∧ flatS (growF c [] (E.take (k + 2))) = T ++ R.map (fun r => (⟨r.X0, r.Y0, E[k + 1], r.Y1⟩ : Rc)) ∧ FmR c E (k + 1) (growF c [] (E.take (k + 2))) was last := by
  have g := growF_take c E [] k hk
  rw [← h.eq, e] at g
  obtain ⟨h1, h2⟩ := h.here (by omega)
  obtain ⟨T, s, e1, e2, e3, e4, e5, e6, e7⟩ := step_wide (b := E[k + 1]) h1 hne
  have h3 := (step_is h2 (FmR.span hE hG hk) (e ▸ hc E[k])).1
  have hl := h.last hne T s e1
  refine ⟨flatS T, rectsOf s.x0 E[k] was, e6, hl, by rw [g]; exact e5, rfl, fun _ => ?_, fun h0 => by omega, fun _ T' s' hT => ?_⟩
  · rw [g]; exact ⟨e7, h3⟩
  · rw [g, e4] at hT
    have : T = T' := (List.append_inj' hT rfl).1
    rw [← this]; exact hl
theorem FmR.new (h : FmR c E k S was last) (hk : k + 1 < E.length) (hE : Asc E) (hG : InG E) (hc : ∀ x, ColOk (c x)) (hn : c E[k] = [] ∨ c E[k] ≠ was) :
    flatS (growF c [] (E.take (k + 2))) = flatS S ++ rectsOf E[k] E[k + 1] (c E[k]) ∧ FmR c E (k + 1) (growF c [] (E.take (k + 2))) (c E[k]) (flatS S).length := by
  have g := growF_take c E [] k hk
  rw [← h.eq] at g
  obtain ⟨h1, h2⟩ := h.here (by omega)
  have hsp := FmR.span hE hG hk
  obtain ⟨e1, e2, e3⟩ := step_new h1 hsp.2.1 h2 hn
  have h3 := (step_is h2 hsp (hc E[k])).1
  refine ⟨by rw [g]; exact e2, rfl, fun _ => ?_, fun h0 => by omega, fun hne T' s' hT => ?_⟩
  · rw [g]; exact ⟨e3, h3⟩
  · rw [g, e1, if_neg hne] at hT
    have : S = T' := (List.append_inj' hT rfl).1
    rw [← this]
theorem FmR.done (h : FmR c E k S was last) (hk : E.length ≤ k + 1) : S = growF c [] E := by
  rw [h.eq, List.take_of_length_le hk]
end
end Go.Proofs.Ytdnoadngfkiabaa
