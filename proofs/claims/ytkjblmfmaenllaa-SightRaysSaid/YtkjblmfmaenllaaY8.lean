/-
  SightRays: the walk of the law.
-/
import Derived.Test.YtkjblmfmaenllaaYt
import Derived.Test.YtkjblmfmaenllaaYo
import Derived.Test.YtkjblmfmaenllaaZ5
import Derived.Test.YtkjblmfmaenllaaBk
set_option linter.unusedVariables false
set_option maxRecDepth 100000
namespace Go.Proofs.Ytkjblmfmaenllaa
open Go.RowKit

/-- a point at a block. -/
def P3At (w : World) (b : Nat) (v : V3) : Prop := w.heap[b]? = some (.cells #[.int .i64 v.x, .int .i64 v.y, .int .i64 v.z] 24 (0, 0))
section
variable {w w' : World} {b : Nat} {v : V3}
theorem P3At.lt (h : P3At w b v) : b < w.heap.size := (Array.getElem?_eq_some_iff.1 h).1
theorem P3At.c0 (h : P3At w b v) : w.cell? ⟨b, 0, none⟩ = some (.int .i64 v.x) := by rw [Lib.cell_of_heap h]; rfl
theorem P3At.c1 (h : P3At w b v) : w.cell? ⟨b, 1, none⟩ = some (.int .i64 v.y) := by rw [Lib.cell_of_heap h]; rfl
theorem P3At.c2 (h : P3At w b v) : w.cell? ⟨b, 2, none⟩ = some (.int .i64 v.z) := by rw [Lib.cell_of_heap h]; rfl
theorem P3At.go (h : P3At w b v) (hb : Below w.heap.size w w') : P3At w' b v := (hb.block _ h.lt).trans h
end
theorem dright_b (A : Option Addr) (cap : Nat) (S : List Sl) (w : World) (h : SIn w A cap S) : Calls Try.prog 15 #[.slice A S.length cap] w (BlIs (solPB S) w) := by
  by_cases hs : SolP S
  · rw [solPB_yes hs]; exact dright_yes h hs
  · rw [solPB_no hs]; exact dright_no h hs
/-- what the fifth region reads: two points. -/
def Tq11 (g gd : Nat) (p d : V3) (w0 w : World) : Prop := w.cell? ⟨g, 0, none⟩ = some (.int .i64 p.x) ∧ w.cell? ⟨g, 1, none⟩ = some (.int .i64 p.y) ∧ w.cell? ⟨g, 2, none⟩ = some (.int .i64 p.z) ∧ w.cell? ⟨gd, 0, none⟩ = some (.int .i64 d.x) ∧ w.cell? ⟨gd, 1, none⟩ = some (.int .i64 d.y) ∧ w.cell? ⟨gd, 2, none⟩ = some (.int .i64 d.z) ∧ g < w.heap.size ∧ gd < w.heap.size ∧ Hid (Below w0.heap.size w0 w)
theorem Tq11.bel {g gd : Nat} {p d : V3} {w0 w : World} (h : Tq11 g gd p d w0 w) : Below w0.heap.size w0 w := h.2.2.2.2.2.2.2.2.out
theorem Tq11.go {g gd : Nat} {p d : V3} {w0 w w' : World} (h : Tq11 g gd p d w0 w) (hb : Below w.heap.size w w') : Tq11 g gd p d w0 w' := by
  obtain ⟨a0, a1, a2, c0, c1, c2, l0, l2, h8⟩ := h
  have x := fun k => hb.cell (p := ⟨g, k, none⟩) l0
  have z := fun k => hb.cell (p := ⟨gd, k, none⟩) l2
  exact ⟨(x _).trans a0, (x _).trans a1, (x _).trans a2, (z _).trans c0, (z _).trans c1, (z _).trans c2, Nat.lt_of_lt_of_le l0 hb.size, Nat.lt_of_lt_of_le l2 hb.size, Lib.hid (h8.out.trans (hb.mono h8.out.size))⟩
theorem Tq11.drewN {g gd : Nat} {p d : V3} {w0 w : World} (h : Tq11 g gd p d w0 w) (k : Nat) : Tq11 g gd p d w0 (w.drewN k) := h.go (below_drewN (Below.refl _ _) k)
theorem Tq11.of {g gd : Nat} {p d : V3} {w : World} (hp : P3At w g p) (hd : P3At w gd d) : Tq11 g gd p d w w := ⟨hp.c0, hp.c1, hp.c2, hd.c0, hd.c1, hd.c2, hp.lt, hd.lt, Lib.hid (Below.refl _ _)⟩
set_option maxHeartbeats 40000000 in
theorem rays11_walk (A : Option Addr) (cap : Nat) (S : List Sl) (p s : V3) (k : Int) (w : World) (hl : SlRow0 w A S) (hc : S.length ≤ cap) (hs : cap ≤ 9223372036854775807) : Calls Try.prog 7 #[.slice A S.length cap, .agg #[.int .i64 p.x, .int .i64 p.y, .int .i64 p.z], .agg #[.int .i64 s.x, .int .i64 s.y, .int .i64 s.z], .int .i64 k] w (BlIs true w) := by
  have HSM := Lib.hid (fun w' => jsmall_any w')
  have HFW := Lib.hid (fun w' (hb : Below w.heap.size w w') => jfew_any A cap S w' (slrow0_below hl hb) (Nat.le_trans hc hs))
  have HV := Lib.hid (fun w' => eValid_nd p.x p.y p.z w')
  by_cases hf : Few11 S
  · rw [few11_yes hf] at HFW
    have HSI := Lib.hid (few11_in hl hc hs hf)
    have HR := Lib.hid (fun w' (hb : Below w.heap.size w w') => dright_b A cap S w' (HSI.out.below hb))
    clear hl hc hs hf
    by_cases so : SolP S
    · rw [solPB_yes so] at HR
      go_enter Try.func7, Try.ntmps7
      go_upto_region 1 with fail
      obtain ⟨w0, hw0⟩ : ∃ w0, w0 = (w.alloc (.cells #[.int .i64 p.x, .int .i64 p.y, .int .i64 p.z] 24)).alloc (.cells #[.int .i64 s.x, .int .i64 s.y, .int .i64 s.z] 24) := ⟨_, rfl⟩
      have HB : Hid (Below w.heap.size w w0) := Lib.hid (by rw [hw0]; exact ((Below.refl _ _).alloc (Nat.le_refl _) _).alloc (by simp) _)
      have Hp : Hid (P3At w0 w.heap.size p) := Lib.hid (by rw [hw0]; exact (heap2 w _ _).1)
      have Hs : Hid (P3At w0 (w.heap.size + 1) s) := Lib.hid (by rw [hw0]; exact (heap2 w _ _).2)
      rw [← hw0]
      clear hw0
      generalize w.heap.size + 1 = gs at *
      obtain ⟨gp, hgp⟩ : ∃ gp, gp = w.heap.size := ⟨_, rfl⟩
      rw [← hgp] at Hp
      simp only [← hgp]
      clear hgp
      have p0 := Hp.out.c0; have p1 := Hp.out.c1; have p2 := Hp.out.c2; have pl := Hp.out.lt
      have s0 := Hs.out.c0; have s1 := Hs.out.c1; have s2 := Hs.out.c2; have sl := Hs.out.lt
      go_wp2_with fail
      with_reducible refine Calls.mono (HSM.out _) ?_
      rintro e w1 ⟨rfl, hb⟩
      replace Hp := Lib.hid (Hp.out.go hb)
      replace Hs := Lib.hid (Hs.out.go hb)
      replace HB := Lib.hid (HB.out.trans (hb.mono HB.out.size))
      clear hb HSM
      clear p0 p1 p2 pl s0 s1 s2 sl
      have p0 := Hp.out.c0; have p1 := Hp.out.c1; have p2 := Hp.out.c2; have pl := Hp.out.lt
      have s0 := Hs.out.c0; have s1 := Hs.out.c1; have s2 := Hs.out.c2; have sl := Hs.out.lt
      go_wp2_with fail
      with_reducible refine Calls.mono (HFW.out _ HB.out) ?_
      rintro e w2 ⟨rfl, hb⟩
      replace Hp := Lib.hid (Hp.out.go hb)
      replace Hs := Lib.hid (Hs.out.go hb)
      replace HB := Lib.hid (HB.out.trans (hb.mono HB.out.size))
      clear hb HFW
      clear p0 p1 p2 pl s0 s1 s2 sl
      have p0 := Hp.out.c0; have p1 := Hp.out.c1; have p2 := Hp.out.c2; have pl := Hp.out.lt
      have s0 := Hs.out.c0; have s1 := Hs.out.c1; have s2 := Hs.out.c2; have sl := Hs.out.lt
      go_wp2_with fail
      with_reducible refine Calls.mono (HR.out _ HB.out) ?_
      rintro e w3 ⟨rfl, hb⟩
      replace Hp := Lib.hid (Hp.out.go hb)
      replace Hs := Lib.hid (Hs.out.go hb)
      replace HB := Lib.hid (HB.out.trans (hb.mono HB.out.size))
      clear hb HR
      clear p0 p1 p2 pl s0 s1 s2 sl
      by_cases ck1 : k < 1
      · clear HSI HV so
        have p0 := Hp.out.c0; have p1 := Hp.out.c1; have p2 := Hp.out.c2; have pl := Hp.out.lt
        have s0 := Hs.out.c0; have s1 := Hs.out.c1; have s2 := Hs.out.c2; have sl := Hs.out.lt
        go_wp2_with fail
        go_ret
        exact ⟨rfl, HB.out⟩
      · skip
        by_cases ck40 : 40 < k
        · clear HSI HV so
          have p0 := Hp.out.c0; have p1 := Hp.out.c1; have p2 := Hp.out.c2; have pl := Hp.out.lt
          have s0 := Hs.out.c0; have s1 := Hs.out.c1; have s2 := Hs.out.c2; have sl := Hs.out.lt
          go_wp2_with fail
          go_ret
          exact ⟨rfl, HB.out⟩
        · skip
          by_cases cxa : s.x < -1000
          · clear HSI HV so
            have p0 := Hp.out.c0; have p1 := Hp.out.c1; have p2 := Hp.out.c2; have pl := Hp.out.lt
            have s0 := Hs.out.c0; have s1 := Hs.out.c1; have s2 := Hs.out.c2; have sl := Hs.out.lt
            go_wp2_with fail
            go_ret
            exact ⟨rfl, HB.out⟩
          · skip
            by_cases cxb : 1000 < s.x
            · clear HSI HV so
              have p0 := Hp.out.c0; have p1 := Hp.out.c1; have p2 := Hp.out.c2; have pl := Hp.out.lt
              have s0 := Hs.out.c0; have s1 := Hs.out.c1; have s2 := Hs.out.c2; have sl := Hs.out.lt
              go_wp2_with fail
              go_ret
              exact ⟨rfl, HB.out⟩
            · skip
              by_cases cya : s.y < -1000
              · clear HSI HV so
                have p0 := Hp.out.c0; have p1 := Hp.out.c1; have p2 := Hp.out.c2; have pl := Hp.out.lt
                have s0 := Hs.out.c0; have s1 := Hs.out.c1; have s2 := Hs.out.c2; have sl := Hs.out.lt
                go_wp2_with fail
                go_ret
                exact ⟨rfl, HB.out⟩
              · skip
                by_cases cyb : 1000 < s.y
                · clear HSI HV so
                  have p0 := Hp.out.c0; have p1 := Hp.out.c1; have p2 := Hp.out.c2; have pl := Hp.out.lt
                  have s0 := Hs.out.c0; have s1 := Hs.out.c1; have s2 := Hs.out.c2; have sl := Hs.out.lt
                  go_wp2_with fail
                  go_ret
                  exact ⟨rfl, HB.out⟩
                · skip
                  by_cases cza : s.z < -1000
                  · clear HSI HV so
                    have p0 := Hp.out.c0; have p1 := Hp.out.c1; have p2 := Hp.out.c2; have pl := Hp.out.lt
                    have s0 := Hs.out.c0; have s1 := Hs.out.c1; have s2 := Hs.out.c2; have sl := Hs.out.lt
                    go_wp2_with fail
                    go_ret
                    exact ⟨rfl, HB.out⟩
                  · skip
                    by_cases czb : 1000 < s.z
                    · clear HSI HV so
                      have p0 := Hp.out.c0; have p1 := Hp.out.c1; have p2 := Hp.out.c2; have pl := Hp.out.lt
                      have s0 := Hs.out.c0; have s1 := Hs.out.c1; have s2 := Hs.out.c2; have sl := Hs.out.lt
                      go_wp2_with fail
                      go_ret
                      exact ⟨rfl, HB.out⟩
                    · skip
                      by_cases cp : PtOk p
                      · skip
                        rw [show decide (PtOk ⟨p.x, p.y, p.z⟩) = true from decide_eq_true cp] at HV
                        have hmx : -40000 ≤ k * s.x ∧ k * s.x ≤ 40000 := by have := mul_rng (k := k) (a := s.x) (b := 1000) (by omega) (by omega) ⟨by omega, by omega⟩; omega
                        have hmy : -40000 ≤ k * s.y ∧ k * s.y ≤ 40000 := by have := mul_rng (k := k) (a := s.y) (b := 1000) (by omega) (by omega) ⟨by omega, by omega⟩; omega
                        have hmz : -40000 ≤ k * s.z ∧ k * s.z ≤ 40000 := by have := mul_rng (k := k) (a := s.z) (b := 1000) (by omega) (by omega) ⟨by omega, by omega⟩; omega
                        have cpp := cp
                        unfold PtOk at cpp
                        have HRY : Hid (ryB S p ⟨k * s.x, k * s.y, k * s.z⟩ = ryB S p s) := Lib.hid (rays_eq so cp (by omega) (by omega) (by omega) (by omega) (by omega))
                        obtain ⟨kx, hkx⟩ : ∃ kx, k * s.x = kx := ⟨_, rfl⟩
                        obtain ⟨mx, hmx'⟩ : ∃ mx, p.x + kx = mx := ⟨_, rfl⟩
                        obtain ⟨ky, hky⟩ : ∃ ky, k * s.y = ky := ⟨_, rfl⟩
                        obtain ⟨my, hmy'⟩ : ∃ my, p.y + ky = my := ⟨_, rfl⟩
                        obtain ⟨kz, hkz⟩ : ∃ kz, k * s.z = kz := ⟨_, rfl⟩
                        obtain ⟨mz, hmz'⟩ : ∃ mz, p.z + kz = mz := ⟨_, rfl⟩
                        rw [hkx, hky, hkz] at HRY
                        rw [hkx] at hmx
                        have t1x : IntKind.i64.wrap (k * s.x) = kx := (IntWalk.i64_in _ (by rw [hkx]; omega)).trans hkx
                        have t2x : IntKind.i64.wrap (p.x + kx) = mx := (IntWalk.i64_in _ (by omega)).trans hmx'
                        rw [hky] at hmy
                        have t1y : IntKind.i64.wrap (k * s.y) = ky := (IntWalk.i64_in _ (by rw [hky]; omega)).trans hky
                        have t2y : IntKind.i64.wrap (p.y + ky) = my := (IntWalk.i64_in _ (by omega)).trans hmy'
                        rw [hkz] at hmz
                        have t1z : IntKind.i64.wrap (k * s.z) = kz := (IntWalk.i64_in _ (by rw [hkz]; omega)).trans hkz
                        have t2z : IntKind.i64.wrap (p.z + kz) = mz := (IntWalk.i64_in _ (by omega)).trans hmz'
                        have em : stepV p s k = ⟨mx, my, mz⟩ := by unfold stepV; rw [hkx, hky, hkz, hmx', hmy', hmz']
                        have HVQ := Lib.hid (fun w' => eValid_nd mx my mz w')
                        have HA := Lib.hid (fun x y z w' => jat_any x y z w')
                        have H1 := Lib.hid (fun w' (hb : Below w.heap.size w w') => sray_any A cap S p s w' (HSI.out.below hb))
                        have H2 := Lib.hid (fun w' (hb : Below w.heap.size w w') => sray_any A cap S p ⟨kx, ky, kz⟩ w' (HSI.out.below hb))
                        have H3 := Lib.hid (fun w' (hb : Below w.heap.size w w') => sblocked_any A cap S p ⟨mx, my, mz⟩ w' (HSI.out.below hb))
                        have H4 := Lib.hid (fun w' (hb : Below w.heap.size w w') => bhas_any A cap S mx my mz w' (HSI.out.below hb))
                        rw [HRY.out] at H2
                        simp only at H2 H3 H4
                        have HEND : Hid (¬ (s.x = 0 ∧ s.y = 0 ∧ s.z = 0) → ryB S p s = false → bkB S p ⟨mx, my, mz⟩ = false ∧ hasGS S mx my mz = false) := Lib.hid (fun hn hr => by
                          have := rays_end so (p := p) (d := s) (k := k) cp (by omega) ⟨by omega, by omega, by omega, by omega⟩ hr
                          rw [em] at this; exact this)
                        generalize ryB S p s = rr at *
                        generalize bkB S p ⟨mx, my, mz⟩ = bb at *
                        generalize hasGS S mx my mz = hh at *
                        have er : (rr != rr) = false := by simp
                        clear hmx hkx hmx' hmy hky hmy' hmz hkz hmz' cpp em HRY HSI so cp
                        by_cases cq : PtOk ⟨mx, my, mz⟩
                        · rw [decide_eq_true cq] at HVQ
                          clear cq
                          have p0 := Hp.out.c0; have p1 := Hp.out.c1; have p2 := Hp.out.c2; have pl := Hp.out.lt
                          have s0 := Hs.out.c0; have s1 := Hs.out.c1; have s2 := Hs.out.c2; have sl := Hs.out.lt
                          go_wp2_with fail
                          with_reducible refine Calls.mono (HV.out _) ?_
                          rintro e w4 ⟨rfl, hb⟩
                          replace Hp := Lib.hid (Hp.out.go hb)
                          replace Hs := Lib.hid (Hs.out.go hb)
                          replace HB := Lib.hid (HB.out.trans (hb.mono HB.out.size))
                          clear hb HV
                          clear p0 p1 p2 pl s0 s1 s2 sl
                          have p0 := Hp.out.c0; have p1 := Hp.out.c1; have p2 := Hp.out.c2; have pl := Hp.out.lt
                          have s0 := Hs.out.c0; have s1 := Hs.out.c1; have s2 := Hs.out.c2; have sl := Hs.out.lt
                          go_wp2_with fail
                          with_reducible refine Calls.mono (H1.out _ HB.out) ?_
                          rintro e w5 ⟨rfl, hb⟩
                          replace Hp := Lib.hid (Hp.out.go hb)
                          replace Hs := Lib.hid (Hs.out.go hb)
                          replace HB := Lib.hid (HB.out.trans (hb.mono HB.out.size))
                          clear hb H1
                          clear p0 p1 p2 pl s0 s1 s2 sl
                          go_upto_region 5 with fail
                          have E5 := Lib.hid (Tq11.of Hp.out Hs.out)
                          have G2 := Lib.hid (fun w' (hh : Below w5.heap.size w5 w') => H2.out w' (HB.out.trans (hh.mono HB.out.size)))
                          obtain ⟨x0, x1, x2, z0, z1, z2, l0, l2, _⟩ := E5.out
                          refine wp_region_held_drew (S := (fun w' => w'.cell? ⟨gp, 0, none⟩ = some (.int .i64 p.x) ∧ w'.cell? ⟨gp, 1, none⟩ = some (.int .i64 p.y) ∧ w'.cell? ⟨gp, 2, none⟩ = some (.int .i64 p.z) ∧ w'.cell? ⟨gs, 0, none⟩ = some (.int .i64 s.x) ∧ w'.cell? ⟨gs, 1, none⟩ = some (.int .i64 s.y) ∧ w'.cell? ⟨gs, 2, none⟩ = some (.int .i64 s.z) ∧ gp < w'.heap.size ∧ gs < w'.heap.size ∧ Hid (Below w5.heap.size w5 w'))) (by kernel_rfl) ?_ (fun hHeld => ?_)
                          · exact Tq11.drewN E5.out 1
                          refine wpAnyH_take (i := 0) (oi := { dst := some 69, op := Go.Op.move (Go.Operand.tmp 0), type := 22, pos := "law.go:120", after := #[], guard := none }) (v := ?_) rfl (by kernel_rfl) (by kernel_rfl) (by kernel_rfl) (fun _ _ _ h => h) (Or.inl ⟨by rfl, ?_⟩) (by assumption) ?_
                          rotate_left
                          · (intro w hSw; (try dsimp only at hSw); go_simp); try with_reducible rfl
                          try simp only [Act.put, List.setIfInBounds_toArray, List.set_cons_zero, List.set_cons_succ]
                          refine wpAnyH_take (i := 1) (oi := { dst := some 70, op := Go.Op.load 24 (Go.Operand.tmp 5), type := 24, pos := "law.go:120", after := #[], guard := none }) (v := ?_) rfl (by kernel_rfl) (by kernel_rfl) (by kernel_rfl) (fun _ _ _ h => h) (Or.inl ⟨by rfl, ?_⟩) (by assumption) ?_
                          rotate_left
                          · (intro w hSw; (try dsimp only at hSw); go_simp); try with_reducible rfl
                          try simp only [Act.put, List.setIfInBounds_toArray, List.set_cons_zero, List.set_cons_succ]
                          refine wpAnyH_take (i := 2) (oi := { dst := some 71, op := Go.Op.move (Go.Operand.tmp 3), type := 3, pos := "law.go:120", after := #[], guard := none }) (v := ?_) rfl (by kernel_rfl) (by kernel_rfl) (by kernel_rfl) (fun _ _ _ h => h) (Or.inl ⟨by rfl, ?_⟩) (by assumption) ?_
                          rotate_left
                          · (intro w hSw; (try dsimp only at hSw); go_simp); try with_reducible rfl
                          try simp only [Act.put, List.setIfInBounds_toArray, List.set_cons_zero, List.set_cons_succ]
                          refine wpAnyH_take (i := 3) (oi := { dst := some 72, op := Go.Op.fieldAddr 24 (Go.Operand.tmp 6) 0, type := 0, pos := "law.go:120", after := #[], guard := none }) (v := ?_) rfl (by kernel_rfl) (by kernel_rfl) (by kernel_rfl) (fun _ _ _ h => h) (Or.inl ⟨by rfl, ?_⟩) (by assumption) ?_
                          rotate_left
                          · (intro w hSw; (try dsimp only at hSw); go_simp); try with_reducible rfl
                          try simp only [Act.put, List.setIfInBounds_toArray, List.set_cons_zero, List.set_cons_succ]
                          refine wpAnyH_take (i := 4) (oi := { dst := some 73, op := Go.Op.load 3 (Go.Operand.tmp 72), type := 3, pos := "law.go:120", after := #[{ on := 3, ground := Go.Ground.data }], guard := none }) (v := ?_) rfl (by kernel_rfl) (by kernel_rfl) (by kernel_rfl) (fun _ _ _ h => h) (Or.inl ⟨by rfl, ?_⟩) (by assumption) ?_
                          rotate_left
                          · (intro w hSw; (try dsimp only at hSw); go_simp); try with_reducible rfl
                          try simp only [Act.put, List.setIfInBounds_toArray, List.set_cons_zero, List.set_cons_succ]
                          refine wpAnyH_take (i := 5) (oi := { dst := some 74, op := Go.Op.binOp Go.BinOp.mul 3 (Go.Operand.tmp 71) (Go.Operand.tmp 73) 3, type := 3, pos := "law.go:120", after := #[{ on := 2, ground := Go.Ground.data }, { on := 4, ground := Go.Ground.data }], guard := none }) (v := ?_) rfl (by kernel_rfl) (by kernel_rfl) (by kernel_rfl) (fun _ _ _ h => h) (Or.inl ⟨by rfl, ?_⟩) (by assumption) ?_
                          rotate_left
                          · (intro w hSw; (try dsimp only at hSw); go_simp); try with_reducible rfl
                          try simp only [Act.put, List.setIfInBounds_toArray, List.set_cons_zero, List.set_cons_succ]
                          refine wpAnyH_take (i := 6) (oi := { dst := some 75, op := Go.Op.move (Go.Operand.tmp 3), type := 3, pos := "law.go:120", after := #[], guard := none }) (v := ?_) rfl (by kernel_rfl) (by kernel_rfl) (by kernel_rfl) (fun _ _ _ h => h) (Or.inl ⟨by rfl, ?_⟩) (by assumption) ?_
                          rotate_left
                          · (intro w hSw; (try dsimp only at hSw); go_simp); try with_reducible rfl
                          try simp only [Act.put, List.setIfInBounds_toArray, List.set_cons_zero, List.set_cons_succ]
                          refine wpAnyH_take (i := 7) (oi := { dst := some 76, op := Go.Op.fieldAddr 24 (Go.Operand.tmp 6) 1, type := 0, pos := "law.go:120", after := #[], guard := none }) (v := ?_) rfl (by kernel_rfl) (by kernel_rfl) (by kernel_rfl) (fun _ _ _ h => h) (Or.inl ⟨by rfl, ?_⟩) (by assumption) ?_
                          rotate_left
                          · (intro w hSw; (try dsimp only at hSw); go_simp); try with_reducible rfl
                          try simp only [Act.put, List.setIfInBounds_toArray, List.set_cons_zero, List.set_cons_succ]
                          refine wpAnyH_take (i := 8) (oi := { dst := some 77, op := Go.Op.load 3 (Go.Operand.tmp 76), type := 3, pos := "law.go:120", after := #[{ on := 7, ground := Go.Ground.data }], guard := none }) (v := ?_) rfl (by kernel_rfl) (by kernel_rfl) (by kernel_rfl) (fun _ _ _ h => h) (Or.inl ⟨by rfl, ?_⟩) (by assumption) ?_
                          rotate_left
                          · (intro w hSw; (try dsimp only at hSw); go_simp); try with_reducible rfl
                          try simp only [Act.put, List.setIfInBounds_toArray, List.set_cons_zero, List.set_cons_succ]
                          refine wpAnyH_take (i := 9) (oi := { dst := some 78, op := Go.Op.binOp Go.BinOp.mul 3 (Go.Operand.tmp 75) (Go.Operand.tmp 77) 3, type := 3, pos := "law.go:120", after := #[{ on := 6, ground := Go.Ground.data }, { on := 8, ground := Go.Ground.data }], guard := none }) (v := ?_) rfl (by kernel_rfl) (by kernel_rfl) (by kernel_rfl) (fun _ _ _ h => h) (Or.inl ⟨by rfl, ?_⟩) (by assumption) ?_
                          rotate_left
                          · (intro w hSw; (try dsimp only at hSw); go_simp); try with_reducible rfl
                          try simp only [Act.put, List.setIfInBounds_toArray, List.set_cons_zero, List.set_cons_succ]
                          refine wpAnyH_take (i := 10) (oi := { dst := some 79, op := Go.Op.move (Go.Operand.tmp 3), type := 3, pos := "law.go:120", after := #[], guard := none }) (v := ?_) rfl (by kernel_rfl) (by kernel_rfl) (by kernel_rfl) (fun _ _ _ h => h) (Or.inl ⟨by rfl, ?_⟩) (by assumption) ?_
                          rotate_left
                          · (intro w hSw; (try dsimp only at hSw); go_simp); try with_reducible rfl
                          try simp only [Act.put, List.setIfInBounds_toArray, List.set_cons_zero, List.set_cons_succ]
                          refine wpAnyH_take (i := 11) (oi := { dst := some 80, op := Go.Op.fieldAddr 24 (Go.Operand.tmp 6) 2, type := 0, pos := "law.go:120", after := #[], guard := none }) (v := ?_) rfl (by kernel_rfl) (by kernel_rfl) (by kernel_rfl) (fun _ _ _ h => h) (Or.inl ⟨by rfl, ?_⟩) (by assumption) ?_
                          rotate_left
                          · (intro w hSw; (try dsimp only at hSw); go_simp); try with_reducible rfl
                          try simp only [Act.put, List.setIfInBounds_toArray, List.set_cons_zero, List.set_cons_succ]
                          refine wpAnyH_take (i := 12) (oi := { dst := some 81, op := Go.Op.load 3 (Go.Operand.tmp 80), type := 3, pos := "law.go:120", after := #[{ on := 11, ground := Go.Ground.data }], guard := none }) (v := ?_) rfl (by kernel_rfl) (by kernel_rfl) (by kernel_rfl) (fun _ _ _ h => h) (Or.inl ⟨by rfl, ?_⟩) (by assumption) ?_
                          rotate_left
                          · (intro w hSw; (try dsimp only at hSw); go_simp); try with_reducible rfl
                          try simp only [Act.put, List.setIfInBounds_toArray, List.set_cons_zero, List.set_cons_succ]
                          refine wpAnyH_take (i := 13) (oi := { dst := some 82, op := Go.Op.binOp Go.BinOp.mul 3 (Go.Operand.tmp 79) (Go.Operand.tmp 81) 3, type := 3, pos := "law.go:120", after := #[{ on := 10, ground := Go.Ground.data }, { on := 12, ground := Go.Ground.data }], guard := none }) (v := ?_) rfl (by kernel_rfl) (by kernel_rfl) (by kernel_rfl) (fun _ _ _ h => h) (Or.inl ⟨by rfl, ?_⟩) (by assumption) ?_
                          rotate_left
                          · (intro w hSw; (try dsimp only at hSw); go_simp); try with_reducible rfl
                          try simp only [Act.put, List.setIfInBounds_toArray, List.set_cons_zero, List.set_cons_succ]
                          refine wpAnyH_take (i := 16) (oi := { dst := some 85, op := Go.Op.move (Go.Operand.tmp 10), type := 4, pos := "law.go:120", after := #[], guard := none }) (v := ?_) rfl (by kernel_rfl) (by kernel_rfl) (by kernel_rfl) (fun _ _ _ h => h) (Or.inl ⟨by rfl, ?_⟩) (by assumption) ?_
                          rotate_left
                          · (intro w hSw; (try dsimp only at hSw); go_simp); try with_reducible rfl
                          try simp only [Act.put, List.setIfInBounds_toArray, List.set_cons_zero, List.set_cons_succ]
                          refine wpAnyH_ready (rs := [14]) (by kernel_rfl) (by simp) ?_
                          refine (AllReadyH.cons (o := { dst := some 83, op := Go.Op.call { callee := Go.Callee.value (Go.Operand.func 16), args := #[Go.Operand.tmp 74, Go.Operand.tmp 78, Go.Operand.tmp 82], argTypes := #[3, 3, 3] }, type := 24, pos := "law.go:120", after := #[{ on := 5, ground := Go.Ground.data }, { on := 9, ground := Go.Ground.data }, { on := 13, ground := Go.Ground.data }], guard := none }) rfl (fun K0 hK => ?_) AllReadyH.nil)
                          have hbq9 := Tq11.bel (g := gp) (gd := gs) (p := p) (d := s) (w0 := w5) hHeld
                          go_simp
                          go_at_call 16
                          with_reducible refine Calls.mono (HA.out _ _ _ _) ?_
                          rintro e w914 ⟨rfl, hb⟩
                          try go_wp2_with fail
                          refine hK.out _ _ (Tq11.go (g := gp) (gd := gs) (p := p) (d := s) (w0 := w5) (by assumption) hb) (fun hHeld2 => ?_)
                          clear hK K0 hHeld hb hbq9
                          have hHeld := hHeld2; clear hHeld2
                          try simp only [Act.put, List.setIfInBounds_toArray, List.set_cons_zero, List.set_cons_succ]
                          refine wpAnyH_ready (rs := [15]) (by kernel_rfl) (by simp) ?_
                          refine (AllReadyH.cons (o := { dst := some 84, op := Go.Op.call { callee := Go.Callee.value (Go.Operand.func 13), args := #[Go.Operand.tmp 69, Go.Operand.tmp 70, Go.Operand.tmp 83], argTypes := #[22, 24, 24] }, type := 4, pos := "law.go:120", after := #[{ on := 0, ground := Go.Ground.data }, { on := 1, ground := Go.Ground.data }, { on := 14, ground := Go.Ground.data }, { on := 14, ground := Go.Ground.chain }], guard := none }) rfl (fun K1 hK => ?_) AllReadyH.nil)
                          have hbq9 := Tq11.bel (g := gp) (gd := gs) (p := p) (d := s) (w0 := w5) hHeld
                          go_simp
                          go_at_call 13
                          with_reducible refine Calls.mono (G2.out _ hbq9) ?_
                          rintro e w915 ⟨rfl, hb⟩
                          try go_wp2_with fail
                          refine hK.out _ _ (Tq11.go (g := gp) (gd := gs) (p := p) (d := s) (w0 := w5) (by assumption) hb) (fun hHeld2 => ?_)
                          clear hK K1 hHeld hb hbq9
                          have hHeld := hHeld2; clear hHeld2
                          try simp only [Act.put, List.setIfInBounds_toArray, List.set_cons_zero, List.set_cons_succ]
                          refine wpAnyH_take (i := 17) (oi := { dst := some 86, op := Go.Op.binOp Go.BinOp.neq 4 (Go.Operand.tmp 84) (Go.Operand.tmp 85) 4, type := 4, pos := "law.go:120", after := #[{ on := 15, ground := Go.Ground.data }, { on := 16, ground := Go.Ground.data }], guard := none }) (v := ?_) rfl (by kernel_rfl) (by kernel_rfl) (by kernel_rfl) (fun _ _ _ h => h) (Or.inl ⟨by rfl, ?_⟩) (by assumption) ?_
                          rotate_left
                          · (intro w hSw; (try dsimp only at hSw); go_simp); try with_reducible rfl
                          try simp only [Act.put, List.setIfInBounds_toArray, List.set_cons_zero, List.set_cons_succ]
                          refine wpAnyH_done (by kernel_rfl) ?_ _
                          have HQ5 := Lib.hid (Tq11.bel (g := gp) (gd := gs) (p := p) (d := s) (w0 := w5) hHeld)
                          clear hHeld E5 G2 H2 x0 x1 x2 z0 z1 z2 l0 l2
                          replace Hp := Lib.hid (Hp.out.go HQ5.out)
                          replace Hs := Lib.hid (Hs.out.go HQ5.out)
                          replace HB := Lib.hid (HB.out.trans (HQ5.out.mono HB.out.size))
                          clear HQ5
                          obtain ⟨w15, hw15⟩ : ∃ w15, w15 = w915 := ⟨_, rfl⟩
                          rw [← hw15] at Hp Hs HB ⊢
                          clear hw15
                          have p0 := Hp.out.c0; have p1 := Hp.out.c1; have p2 := Hp.out.c2; have pl := Hp.out.lt
                          have s0 := Hs.out.c0; have s1 := Hs.out.c1; have s2 := Hs.out.c2; have sl := Hs.out.lt
                          go_wp2_with fail
                          with_reducible refine Calls.mono (HA.out _ _ _ _) ?_
                          rintro e w16 ⟨rfl, hb⟩
                          replace Hp := Lib.hid (Hp.out.go hb)
                          replace Hs := Lib.hid (Hs.out.go hb)
                          replace HB := Lib.hid (HB.out.trans (hb.mono HB.out.size))
                          clear hb HA
                          clear p0 p1 p2 pl s0 s1 s2 sl
                          have p0 := Hp.out.c0; have p1 := Hp.out.c1; have p2 := Hp.out.c2; have pl := Hp.out.lt
                          have s0 := Hs.out.c0; have s1 := Hs.out.c1; have s2 := Hs.out.c2; have sl := Hs.out.lt
                          go_upto_region 8 with fail
                          obtain ⟨w17, hwa⟩ : ∃ wa, wa = w16.alloc (.cells #[.int .i64 mx, .int .i64 my, .int .i64 mz] 24) := ⟨_, rfl⟩
                          have hb : Below w16.heap.size w16 w17 := by rw [hwa]; exact (Below.refl _ _).alloc (Nat.le_refl _) _
                          have Hm : Hid (P3At w17 w16.heap.size ⟨mx, my, mz⟩) := Lib.hid (by rw [hwa]; exact heap_alloc_new w16 _)
                          rw [← hwa]
                          clear hwa
                          replace Hp := Lib.hid (Hp.out.go hb)
                          replace Hs := Lib.hid (Hs.out.go hb)
                          replace HB := Lib.hid (HB.out.trans (hb.mono HB.out.size))
                          clear hb
                          clear p0 p1 p2 pl s0 s1 s2 sl
                          generalize w16.heap.size = gm at *
                          have p0 := Hp.out.c0; have p1 := Hp.out.c1; have p2 := Hp.out.c2; have pl := Hp.out.lt
                          have s0 := Hs.out.c0; have s1 := Hs.out.c1; have s2 := Hs.out.c2; have sl := Hs.out.lt
                          have m0 := Hm.out.c0; have m1 := Hm.out.c1; have m2 := Hm.out.c2; have ml := Hm.out.lt
                          go_wp2_with fail
                          with_reducible refine Calls.mono (HVQ.out _) ?_
                          rintro e w18 ⟨rfl, hb⟩
                          replace Hp := Lib.hid (Hp.out.go hb)
                          replace Hs := Lib.hid (Hs.out.go hb)
                          replace Hm := Lib.hid (Hm.out.go hb)
                          replace HB := Lib.hid (HB.out.trans (hb.mono HB.out.size))
                          clear hb HVQ
                          clear p0 p1 p2 pl s0 s1 s2 sl m0 m1 m2 ml
                          by_cases c0 : s.x = 0 ∧ s.y = 0 ∧ s.z = 0
                          · have u0 : (s.x == 0) = true := by simp [c0.1]
                            have u1 : (s.y == 0) = true := by simp [c0.2.1]
                            have u2 : (s.z == 0) = true := by simp [c0.2.2]
                            clear c0 HEND
                            have p0 := Hp.out.c0; have p1 := Hp.out.c1; have p2 := Hp.out.c2; have pl := Hp.out.lt
                            have s0 := Hs.out.c0; have s1 := Hs.out.c1; have s2 := Hs.out.c2; have sl := Hs.out.lt
                            have m0 := Hm.out.c0; have m1 := Hm.out.c1; have m2 := Hm.out.c2; have ml := Hm.out.lt
                            go_wp2_with fail
                            go_ret
                            exact ⟨rfl, HB.out⟩
                          · have HE := Lib.hid (HEND.out c0)
                            clear HEND
                            by_cases k0 : s.x = 0
                            · by_cases k1 : s.y = 0
                              · have k2 : ¬ s.z = 0 := fun h => c0 ⟨k0, k1, h⟩
                                have u0 : (s.x == 0) = true := by simp [k0]
                                have u1 : (s.y == 0) = true := by simp [k1]
                                have u2 : (s.z == 0) = false := by simp [k2]
                                clear c0 k0 k1 k2
                                cases rr with
                                | true =>
                                  clear HE H3 H4
                                  have p0 := Hp.out.c0; have p1 := Hp.out.c1; have p2 := Hp.out.c2; have pl := Hp.out.lt
                                  have s0 := Hs.out.c0; have s1 := Hs.out.c1; have s2 := Hs.out.c2; have sl := Hs.out.lt
                                  have m0 := Hm.out.c0; have m1 := Hm.out.c1; have m2 := Hm.out.c2; have ml := Hm.out.lt
                                  go_wp2_with fail
                                  go_ret
                                  exact ⟨rfl, HB.out⟩
                                | false =>
                                  obtain ⟨rfl, rfl⟩ := HE.out rfl
                                  clear HE
                                  have p0 := Hp.out.c0; have p1 := Hp.out.c1; have p2 := Hp.out.c2; have pl := Hp.out.lt
                                  have s0 := Hs.out.c0; have s1 := Hs.out.c1; have s2 := Hs.out.c2; have sl := Hs.out.lt
                                  have m0 := Hm.out.c0; have m1 := Hm.out.c1; have m2 := Hm.out.c2; have ml := Hm.out.lt
                                  go_wp2_with fail
                                  with_reducible refine Calls.mono (H3.out _ HB.out) ?_
                                  rintro e w19 ⟨rfl, hb⟩
                                  replace Hp := Lib.hid (Hp.out.go hb)
                                  replace Hs := Lib.hid (Hs.out.go hb)
                                  replace Hm := Lib.hid (Hm.out.go hb)
                                  replace HB := Lib.hid (HB.out.trans (hb.mono HB.out.size))
                                  clear hb H3
                                  clear p0 p1 p2 pl s0 s1 s2 sl m0 m1 m2 ml
                                  have p0 := Hp.out.c0; have p1 := Hp.out.c1; have p2 := Hp.out.c2; have pl := Hp.out.lt
                                  have s0 := Hs.out.c0; have s1 := Hs.out.c1; have s2 := Hs.out.c2; have sl := Hs.out.lt
                                  have m0 := Hm.out.c0; have m1 := Hm.out.c1; have m2 := Hm.out.c2; have ml := Hm.out.lt
                                  go_wp2_with fail
                                  with_reducible refine Calls.mono (H4.out _ HB.out) ?_
                                  rintro e w20 ⟨rfl, hb⟩
                                  replace Hp := Lib.hid (Hp.out.go hb)
                                  replace Hs := Lib.hid (Hs.out.go hb)
                                  replace Hm := Lib.hid (Hm.out.go hb)
                                  replace HB := Lib.hid (HB.out.trans (hb.mono HB.out.size))
                                  clear hb H4
                                  clear p0 p1 p2 pl s0 s1 s2 sl m0 m1 m2 ml
                                  have p0 := Hp.out.c0; have p1 := Hp.out.c1; have p2 := Hp.out.c2; have pl := Hp.out.lt
                                  have s0 := Hs.out.c0; have s1 := Hs.out.c1; have s2 := Hs.out.c2; have sl := Hs.out.lt
                                  have m0 := Hm.out.c0; have m1 := Hm.out.c1; have m2 := Hm.out.c2; have ml := Hm.out.lt
                                  go_wp2_with fail
                                  go_ret
                                  exact ⟨rfl, HB.out⟩
                              · have u0 : (s.x == 0) = true := by simp [k0]
                                have u1 : (s.y == 0) = false := by simp [k1]
                                clear c0 k0 k1
                                cases rr with
                                | true =>
                                  clear HE H3 H4
                                  have p0 := Hp.out.c0; have p1 := Hp.out.c1; have p2 := Hp.out.c2; have pl := Hp.out.lt
                                  have s0 := Hs.out.c0; have s1 := Hs.out.c1; have s2 := Hs.out.c2; have sl := Hs.out.lt
                                  have m0 := Hm.out.c0; have m1 := Hm.out.c1; have m2 := Hm.out.c2; have ml := Hm.out.lt
                                  go_wp2_with fail
                                  go_ret
                                  exact ⟨rfl, HB.out⟩
                                | false =>
                                  obtain ⟨rfl, rfl⟩ := HE.out rfl
                                  clear HE
                                  have p0 := Hp.out.c0; have p1 := Hp.out.c1; have p2 := Hp.out.c2; have pl := Hp.out.lt
                                  have s0 := Hs.out.c0; have s1 := Hs.out.c1; have s2 := Hs.out.c2; have sl := Hs.out.lt
                                  have m0 := Hm.out.c0; have m1 := Hm.out.c1; have m2 := Hm.out.c2; have ml := Hm.out.lt
                                  go_wp2_with fail
                                  with_reducible refine Calls.mono (H3.out _ HB.out) ?_
                                  rintro e w19 ⟨rfl, hb⟩
                                  replace Hp := Lib.hid (Hp.out.go hb)
                                  replace Hs := Lib.hid (Hs.out.go hb)
                                  replace Hm := Lib.hid (Hm.out.go hb)
                                  replace HB := Lib.hid (HB.out.trans (hb.mono HB.out.size))
                                  clear hb H3
                                  clear p0 p1 p2 pl s0 s1 s2 sl m0 m1 m2 ml
                                  have p0 := Hp.out.c0; have p1 := Hp.out.c1; have p2 := Hp.out.c2; have pl := Hp.out.lt
                                  have s0 := Hs.out.c0; have s1 := Hs.out.c1; have s2 := Hs.out.c2; have sl := Hs.out.lt
                                  have m0 := Hm.out.c0; have m1 := Hm.out.c1; have m2 := Hm.out.c2; have ml := Hm.out.lt
                                  go_wp2_with fail
                                  with_reducible refine Calls.mono (H4.out _ HB.out) ?_
                                  rintro e w20 ⟨rfl, hb⟩
                                  replace Hp := Lib.hid (Hp.out.go hb)
                                  replace Hs := Lib.hid (Hs.out.go hb)
                                  replace Hm := Lib.hid (Hm.out.go hb)
                                  replace HB := Lib.hid (HB.out.trans (hb.mono HB.out.size))
                                  clear hb H4
                                  clear p0 p1 p2 pl s0 s1 s2 sl m0 m1 m2 ml
                                  have p0 := Hp.out.c0; have p1 := Hp.out.c1; have p2 := Hp.out.c2; have pl := Hp.out.lt
                                  have s0 := Hs.out.c0; have s1 := Hs.out.c1; have s2 := Hs.out.c2; have sl := Hs.out.lt
                                  have m0 := Hm.out.c0; have m1 := Hm.out.c1; have m2 := Hm.out.c2; have ml := Hm.out.lt
                                  go_wp2_with fail
                                  go_ret
                                  exact ⟨rfl, HB.out⟩
                            · have u0 : (s.x == 0) = false := by simp [k0]
                              clear c0 k0
                              cases rr with
                              | true =>
                                clear HE H3 H4
                                have p0 := Hp.out.c0; have p1 := Hp.out.c1; have p2 := Hp.out.c2; have pl := Hp.out.lt
                                have s0 := Hs.out.c0; have s1 := Hs.out.c1; have s2 := Hs.out.c2; have sl := Hs.out.lt
                                have m0 := Hm.out.c0; have m1 := Hm.out.c1; have m2 := Hm.out.c2; have ml := Hm.out.lt
                                go_wp2_with fail
                                go_ret
                                exact ⟨rfl, HB.out⟩
                              | false =>
                                obtain ⟨rfl, rfl⟩ := HE.out rfl
                                clear HE
                                have p0 := Hp.out.c0; have p1 := Hp.out.c1; have p2 := Hp.out.c2; have pl := Hp.out.lt
                                have s0 := Hs.out.c0; have s1 := Hs.out.c1; have s2 := Hs.out.c2; have sl := Hs.out.lt
                                have m0 := Hm.out.c0; have m1 := Hm.out.c1; have m2 := Hm.out.c2; have ml := Hm.out.lt
                                go_wp2_with fail
                                with_reducible refine Calls.mono (H3.out _ HB.out) ?_
                                rintro e w19 ⟨rfl, hb⟩
                                replace Hp := Lib.hid (Hp.out.go hb)
                                replace Hs := Lib.hid (Hs.out.go hb)
                                replace Hm := Lib.hid (Hm.out.go hb)
                                replace HB := Lib.hid (HB.out.trans (hb.mono HB.out.size))
                                clear hb H3
                                clear p0 p1 p2 pl s0 s1 s2 sl m0 m1 m2 ml
                                have p0 := Hp.out.c0; have p1 := Hp.out.c1; have p2 := Hp.out.c2; have pl := Hp.out.lt
                                have s0 := Hs.out.c0; have s1 := Hs.out.c1; have s2 := Hs.out.c2; have sl := Hs.out.lt
                                have m0 := Hm.out.c0; have m1 := Hm.out.c1; have m2 := Hm.out.c2; have ml := Hm.out.lt
                                go_wp2_with fail
                                with_reducible refine Calls.mono (H4.out _ HB.out) ?_
                                rintro e w20 ⟨rfl, hb⟩
                                replace Hp := Lib.hid (Hp.out.go hb)
                                replace Hs := Lib.hid (Hs.out.go hb)
                                replace Hm := Lib.hid (Hm.out.go hb)
                                replace HB := Lib.hid (HB.out.trans (hb.mono HB.out.size))
                                clear hb H4
                                clear p0 p1 p2 pl s0 s1 s2 sl m0 m1 m2 ml
                                have p0 := Hp.out.c0; have p1 := Hp.out.c1; have p2 := Hp.out.c2; have pl := Hp.out.lt
                                have s0 := Hs.out.c0; have s1 := Hs.out.c1; have s2 := Hs.out.c2; have sl := Hs.out.lt
                                have m0 := Hm.out.c0; have m1 := Hm.out.c1; have m2 := Hm.out.c2; have ml := Hm.out.lt
                                go_wp2_with fail
                                go_ret
                                exact ⟨rfl, HB.out⟩
                        · rw [decide_eq_false cq] at HVQ
                          clear cq HEND H3 H4
                          have p0 := Hp.out.c0; have p1 := Hp.out.c1; have p2 := Hp.out.c2; have pl := Hp.out.lt
                          have s0 := Hs.out.c0; have s1 := Hs.out.c1; have s2 := Hs.out.c2; have sl := Hs.out.lt
                          go_wp2_with fail
                          with_reducible refine Calls.mono (HV.out _) ?_
                          rintro e w4 ⟨rfl, hb⟩
                          replace Hp := Lib.hid (Hp.out.go hb)
                          replace Hs := Lib.hid (Hs.out.go hb)
                          replace HB := Lib.hid (HB.out.trans (hb.mono HB.out.size))
                          clear hb HV
                          clear p0 p1 p2 pl s0 s1 s2 sl
                          have p0 := Hp.out.c0; have p1 := Hp.out.c1; have p2 := Hp.out.c2; have pl := Hp.out.lt
                          have s0 := Hs.out.c0; have s1 := Hs.out.c1; have s2 := Hs.out.c2; have sl := Hs.out.lt
                          go_wp2_with fail
                          with_reducible refine Calls.mono (H1.out _ HB.out) ?_
                          rintro e w5 ⟨rfl, hb⟩
                          replace Hp := Lib.hid (Hp.out.go hb)
                          replace Hs := Lib.hid (Hs.out.go hb)
                          replace HB := Lib.hid (HB.out.trans (hb.mono HB.out.size))
                          clear hb H1
                          clear p0 p1 p2 pl s0 s1 s2 sl
                          go_upto_region 5 with fail
                          have E5 := Lib.hid (Tq11.of Hp.out Hs.out)
                          have G2 := Lib.hid (fun w' (hh : Below w5.heap.size w5 w') => H2.out w' (HB.out.trans (hh.mono HB.out.size)))
                          obtain ⟨x0, x1, x2, z0, z1, z2, l0, l2, _⟩ := E5.out
                          refine wp_region_held_drew (S := (fun w' => w'.cell? ⟨gp, 0, none⟩ = some (.int .i64 p.x) ∧ w'.cell? ⟨gp, 1, none⟩ = some (.int .i64 p.y) ∧ w'.cell? ⟨gp, 2, none⟩ = some (.int .i64 p.z) ∧ w'.cell? ⟨gs, 0, none⟩ = some (.int .i64 s.x) ∧ w'.cell? ⟨gs, 1, none⟩ = some (.int .i64 s.y) ∧ w'.cell? ⟨gs, 2, none⟩ = some (.int .i64 s.z) ∧ gp < w'.heap.size ∧ gs < w'.heap.size ∧ Hid (Below w5.heap.size w5 w'))) (by kernel_rfl) ?_ (fun hHeld => ?_)
                          · exact Tq11.drewN E5.out 1
                          refine wpAnyH_take (i := 0) (oi := { dst := some 69, op := Go.Op.move (Go.Operand.tmp 0), type := 22, pos := "law.go:120", after := #[], guard := none }) (v := ?_) rfl (by kernel_rfl) (by kernel_rfl) (by kernel_rfl) (fun _ _ _ h => h) (Or.inl ⟨by rfl, ?_⟩) (by assumption) ?_
                          rotate_left
                          · (intro w hSw; (try dsimp only at hSw); go_simp); try with_reducible rfl
                          try simp only [Act.put, List.setIfInBounds_toArray, List.set_cons_zero, List.set_cons_succ]
                          refine wpAnyH_take (i := 1) (oi := { dst := some 70, op := Go.Op.load 24 (Go.Operand.tmp 5), type := 24, pos := "law.go:120", after := #[], guard := none }) (v := ?_) rfl (by kernel_rfl) (by kernel_rfl) (by kernel_rfl) (fun _ _ _ h => h) (Or.inl ⟨by rfl, ?_⟩) (by assumption) ?_
                          rotate_left
                          · (intro w hSw; (try dsimp only at hSw); go_simp); try with_reducible rfl
                          try simp only [Act.put, List.setIfInBounds_toArray, List.set_cons_zero, List.set_cons_succ]
                          refine wpAnyH_take (i := 2) (oi := { dst := some 71, op := Go.Op.move (Go.Operand.tmp 3), type := 3, pos := "law.go:120", after := #[], guard := none }) (v := ?_) rfl (by kernel_rfl) (by kernel_rfl) (by kernel_rfl) (fun _ _ _ h => h) (Or.inl ⟨by rfl, ?_⟩) (by assumption) ?_
                          rotate_left
                          · (intro w hSw; (try dsimp only at hSw); go_simp); try with_reducible rfl
                          try simp only [Act.put, List.setIfInBounds_toArray, List.set_cons_zero, List.set_cons_succ]
                          refine wpAnyH_take (i := 3) (oi := { dst := some 72, op := Go.Op.fieldAddr 24 (Go.Operand.tmp 6) 0, type := 0, pos := "law.go:120", after := #[], guard := none }) (v := ?_) rfl (by kernel_rfl) (by kernel_rfl) (by kernel_rfl) (fun _ _ _ h => h) (Or.inl ⟨by rfl, ?_⟩) (by assumption) ?_
                          rotate_left
                          · (intro w hSw; (try dsimp only at hSw); go_simp); try with_reducible rfl
                          try simp only [Act.put, List.setIfInBounds_toArray, List.set_cons_zero, List.set_cons_succ]
                          refine wpAnyH_take (i := 4) (oi := { dst := some 73, op := Go.Op.load 3 (Go.Operand.tmp 72), type := 3, pos := "law.go:120", after := #[{ on := 3, ground := Go.Ground.data }], guard := none }) (v := ?_) rfl (by kernel_rfl) (by kernel_rfl) (by kernel_rfl) (fun _ _ _ h => h) (Or.inl ⟨by rfl, ?_⟩) (by assumption) ?_
                          rotate_left
                          · (intro w hSw; (try dsimp only at hSw); go_simp); try with_reducible rfl
                          try simp only [Act.put, List.setIfInBounds_toArray, List.set_cons_zero, List.set_cons_succ]
                          refine wpAnyH_take (i := 5) (oi := { dst := some 74, op := Go.Op.binOp Go.BinOp.mul 3 (Go.Operand.tmp 71) (Go.Operand.tmp 73) 3, type := 3, pos := "law.go:120", after := #[{ on := 2, ground := Go.Ground.data }, { on := 4, ground := Go.Ground.data }], guard := none }) (v := ?_) rfl (by kernel_rfl) (by kernel_rfl) (by kernel_rfl) (fun _ _ _ h => h) (Or.inl ⟨by rfl, ?_⟩) (by assumption) ?_
                          rotate_left
                          · (intro w hSw; (try dsimp only at hSw); go_simp); try with_reducible rfl
                          try simp only [Act.put, List.setIfInBounds_toArray, List.set_cons_zero, List.set_cons_succ]
                          refine wpAnyH_take (i := 6) (oi := { dst := some 75, op := Go.Op.move (Go.Operand.tmp 3), type := 3, pos := "law.go:120", after := #[], guard := none }) (v := ?_) rfl (by kernel_rfl) (by kernel_rfl) (by kernel_rfl) (fun _ _ _ h => h) (Or.inl ⟨by rfl, ?_⟩) (by assumption) ?_
                          rotate_left
                          · (intro w hSw; (try dsimp only at hSw); go_simp); try with_reducible rfl
                          try simp only [Act.put, List.setIfInBounds_toArray, List.set_cons_zero, List.set_cons_succ]
                          refine wpAnyH_take (i := 7) (oi := { dst := some 76, op := Go.Op.fieldAddr 24 (Go.Operand.tmp 6) 1, type := 0, pos := "law.go:120", after := #[], guard := none }) (v := ?_) rfl (by kernel_rfl) (by kernel_rfl) (by kernel_rfl) (fun _ _ _ h => h) (Or.inl ⟨by rfl, ?_⟩) (by assumption) ?_
                          rotate_left
                          · (intro w hSw; (try dsimp only at hSw); go_simp); try with_reducible rfl
                          try simp only [Act.put, List.setIfInBounds_toArray, List.set_cons_zero, List.set_cons_succ]
                          refine wpAnyH_take (i := 8) (oi := { dst := some 77, op := Go.Op.load 3 (Go.Operand.tmp 76), type := 3, pos := "law.go:120", after := #[{ on := 7, ground := Go.Ground.data }], guard := none }) (v := ?_) rfl (by kernel_rfl) (by kernel_rfl) (by kernel_rfl) (fun _ _ _ h => h) (Or.inl ⟨by rfl, ?_⟩) (by assumption) ?_
                          rotate_left
                          · (intro w hSw; (try dsimp only at hSw); go_simp); try with_reducible rfl
                          try simp only [Act.put, List.setIfInBounds_toArray, List.set_cons_zero, List.set_cons_succ]
                          refine wpAnyH_take (i := 9) (oi := { dst := some 78, op := Go.Op.binOp Go.BinOp.mul 3 (Go.Operand.tmp 75) (Go.Operand.tmp 77) 3, type := 3, pos := "law.go:120", after := #[{ on := 6, ground := Go.Ground.data }, { on := 8, ground := Go.Ground.data }], guard := none }) (v := ?_) rfl (by kernel_rfl) (by kernel_rfl) (by kernel_rfl) (fun _ _ _ h => h) (Or.inl ⟨by rfl, ?_⟩) (by assumption) ?_
                          rotate_left
                          · (intro w hSw; (try dsimp only at hSw); go_simp); try with_reducible rfl
                          try simp only [Act.put, List.setIfInBounds_toArray, List.set_cons_zero, List.set_cons_succ]
                          refine wpAnyH_take (i := 10) (oi := { dst := some 79, op := Go.Op.move (Go.Operand.tmp 3), type := 3, pos := "law.go:120", after := #[], guard := none }) (v := ?_) rfl (by kernel_rfl) (by kernel_rfl) (by kernel_rfl) (fun _ _ _ h => h) (Or.inl ⟨by rfl, ?_⟩) (by assumption) ?_
                          rotate_left
                          · (intro w hSw; (try dsimp only at hSw); go_simp); try with_reducible rfl
                          try simp only [Act.put, List.setIfInBounds_toArray, List.set_cons_zero, List.set_cons_succ]
                          refine wpAnyH_take (i := 11) (oi := { dst := some 80, op := Go.Op.fieldAddr 24 (Go.Operand.tmp 6) 2, type := 0, pos := "law.go:120", after := #[], guard := none }) (v := ?_) rfl (by kernel_rfl) (by kernel_rfl) (by kernel_rfl) (fun _ _ _ h => h) (Or.inl ⟨by rfl, ?_⟩) (by assumption) ?_
                          rotate_left
                          · (intro w hSw; (try dsimp only at hSw); go_simp); try with_reducible rfl
                          try simp only [Act.put, List.setIfInBounds_toArray, List.set_cons_zero, List.set_cons_succ]
                          refine wpAnyH_take (i := 12) (oi := { dst := some 81, op := Go.Op.load 3 (Go.Operand.tmp 80), type := 3, pos := "law.go:120", after := #[{ on := 11, ground := Go.Ground.data }], guard := none }) (v := ?_) rfl (by kernel_rfl) (by kernel_rfl) (by kernel_rfl) (fun _ _ _ h => h) (Or.inl ⟨by rfl, ?_⟩) (by assumption) ?_
                          rotate_left
                          · (intro w hSw; (try dsimp only at hSw); go_simp); try with_reducible rfl
                          try simp only [Act.put, List.setIfInBounds_toArray, List.set_cons_zero, List.set_cons_succ]
                          refine wpAnyH_take (i := 13) (oi := { dst := some 82, op := Go.Op.binOp Go.BinOp.mul 3 (Go.Operand.tmp 79) (Go.Operand.tmp 81) 3, type := 3, pos := "law.go:120", after := #[{ on := 10, ground := Go.Ground.data }, { on := 12, ground := Go.Ground.data }], guard := none }) (v := ?_) rfl (by kernel_rfl) (by kernel_rfl) (by kernel_rfl) (fun _ _ _ h => h) (Or.inl ⟨by rfl, ?_⟩) (by assumption) ?_
                          rotate_left
                          · (intro w hSw; (try dsimp only at hSw); go_simp); try with_reducible rfl
                          try simp only [Act.put, List.setIfInBounds_toArray, List.set_cons_zero, List.set_cons_succ]
                          refine wpAnyH_take (i := 16) (oi := { dst := some 85, op := Go.Op.move (Go.Operand.tmp 10), type := 4, pos := "law.go:120", after := #[], guard := none }) (v := ?_) rfl (by kernel_rfl) (by kernel_rfl) (by kernel_rfl) (fun _ _ _ h => h) (Or.inl ⟨by rfl, ?_⟩) (by assumption) ?_
                          rotate_left
                          · (intro w hSw; (try dsimp only at hSw); go_simp); try with_reducible rfl
                          try simp only [Act.put, List.setIfInBounds_toArray, List.set_cons_zero, List.set_cons_succ]
                          refine wpAnyH_ready (rs := [14]) (by kernel_rfl) (by simp) ?_
                          refine (AllReadyH.cons (o := { dst := some 83, op := Go.Op.call { callee := Go.Callee.value (Go.Operand.func 16), args := #[Go.Operand.tmp 74, Go.Operand.tmp 78, Go.Operand.tmp 82], argTypes := #[3, 3, 3] }, type := 24, pos := "law.go:120", after := #[{ on := 5, ground := Go.Ground.data }, { on := 9, ground := Go.Ground.data }, { on := 13, ground := Go.Ground.data }], guard := none }) rfl (fun K0 hK => ?_) AllReadyH.nil)
                          have hbq9 := Tq11.bel (g := gp) (gd := gs) (p := p) (d := s) (w0 := w5) hHeld
                          go_simp
                          go_at_call 16
                          with_reducible refine Calls.mono (HA.out _ _ _ _) ?_
                          rintro e w914 ⟨rfl, hb⟩
                          try go_wp2_with fail
                          refine hK.out _ _ (Tq11.go (g := gp) (gd := gs) (p := p) (d := s) (w0 := w5) (by assumption) hb) (fun hHeld2 => ?_)
                          clear hK K0 hHeld hb hbq9
                          have hHeld := hHeld2; clear hHeld2
                          try simp only [Act.put, List.setIfInBounds_toArray, List.set_cons_zero, List.set_cons_succ]
                          refine wpAnyH_ready (rs := [15]) (by kernel_rfl) (by simp) ?_
                          refine (AllReadyH.cons (o := { dst := some 84, op := Go.Op.call { callee := Go.Callee.value (Go.Operand.func 13), args := #[Go.Operand.tmp 69, Go.Operand.tmp 70, Go.Operand.tmp 83], argTypes := #[22, 24, 24] }, type := 4, pos := "law.go:120", after := #[{ on := 0, ground := Go.Ground.data }, { on := 1, ground := Go.Ground.data }, { on := 14, ground := Go.Ground.data }, { on := 14, ground := Go.Ground.chain }], guard := none }) rfl (fun K1 hK => ?_) AllReadyH.nil)
                          have hbq9 := Tq11.bel (g := gp) (gd := gs) (p := p) (d := s) (w0 := w5) hHeld
                          go_simp
                          go_at_call 13
                          with_reducible refine Calls.mono (G2.out _ hbq9) ?_
                          rintro e w915 ⟨rfl, hb⟩
                          try go_wp2_with fail
                          refine hK.out _ _ (Tq11.go (g := gp) (gd := gs) (p := p) (d := s) (w0 := w5) (by assumption) hb) (fun hHeld2 => ?_)
                          clear hK K1 hHeld hb hbq9
                          have hHeld := hHeld2; clear hHeld2
                          try simp only [Act.put, List.setIfInBounds_toArray, List.set_cons_zero, List.set_cons_succ]
                          refine wpAnyH_take (i := 17) (oi := { dst := some 86, op := Go.Op.binOp Go.BinOp.neq 4 (Go.Operand.tmp 84) (Go.Operand.tmp 85) 4, type := 4, pos := "law.go:120", after := #[{ on := 15, ground := Go.Ground.data }, { on := 16, ground := Go.Ground.data }], guard := none }) (v := ?_) rfl (by kernel_rfl) (by kernel_rfl) (by kernel_rfl) (fun _ _ _ h => h) (Or.inl ⟨by rfl, ?_⟩) (by assumption) ?_
                          rotate_left
                          · (intro w hSw; (try dsimp only at hSw); go_simp); try with_reducible rfl
                          try simp only [Act.put, List.setIfInBounds_toArray, List.set_cons_zero, List.set_cons_succ]
                          refine wpAnyH_done (by kernel_rfl) ?_ _
                          have HQ5 := Lib.hid (Tq11.bel (g := gp) (gd := gs) (p := p) (d := s) (w0 := w5) hHeld)
                          clear hHeld E5 G2 H2 x0 x1 x2 z0 z1 z2 l0 l2
                          replace Hp := Lib.hid (Hp.out.go HQ5.out)
                          replace Hs := Lib.hid (Hs.out.go HQ5.out)
                          replace HB := Lib.hid (HB.out.trans (HQ5.out.mono HB.out.size))
                          clear HQ5
                          obtain ⟨w15, hw15⟩ : ∃ w15, w15 = w915 := ⟨_, rfl⟩
                          rw [← hw15] at Hp Hs HB ⊢
                          clear hw15
                          have p0 := Hp.out.c0; have p1 := Hp.out.c1; have p2 := Hp.out.c2; have pl := Hp.out.lt
                          have s0 := Hs.out.c0; have s1 := Hs.out.c1; have s2 := Hs.out.c2; have sl := Hs.out.lt
                          go_wp2_with fail
                          with_reducible refine Calls.mono (HA.out _ _ _ _) ?_
                          rintro e w16 ⟨rfl, hb⟩
                          replace Hp := Lib.hid (Hp.out.go hb)
                          replace Hs := Lib.hid (Hs.out.go hb)
                          replace HB := Lib.hid (HB.out.trans (hb.mono HB.out.size))
                          clear hb HA
                          clear p0 p1 p2 pl s0 s1 s2 sl
                          have p0 := Hp.out.c0; have p1 := Hp.out.c1; have p2 := Hp.out.c2; have pl := Hp.out.lt
                          have s0 := Hs.out.c0; have s1 := Hs.out.c1; have s2 := Hs.out.c2; have sl := Hs.out.lt
                          go_upto_region 8 with fail
                          obtain ⟨w17, hwa⟩ : ∃ wa, wa = w16.alloc (.cells #[.int .i64 mx, .int .i64 my, .int .i64 mz] 24) := ⟨_, rfl⟩
                          have hb : Below w16.heap.size w16 w17 := by rw [hwa]; exact (Below.refl _ _).alloc (Nat.le_refl _) _
                          have Hm : Hid (P3At w17 w16.heap.size ⟨mx, my, mz⟩) := Lib.hid (by rw [hwa]; exact heap_alloc_new w16 _)
                          rw [← hwa]
                          clear hwa
                          replace Hp := Lib.hid (Hp.out.go hb)
                          replace Hs := Lib.hid (Hs.out.go hb)
                          replace HB := Lib.hid (HB.out.trans (hb.mono HB.out.size))
                          clear hb
                          clear p0 p1 p2 pl s0 s1 s2 sl
                          generalize w16.heap.size = gm at *
                          have p0 := Hp.out.c0; have p1 := Hp.out.c1; have p2 := Hp.out.c2; have pl := Hp.out.lt
                          have s0 := Hs.out.c0; have s1 := Hs.out.c1; have s2 := Hs.out.c2; have sl := Hs.out.lt
                          have m0 := Hm.out.c0; have m1 := Hm.out.c1; have m2 := Hm.out.c2; have ml := Hm.out.lt
                          go_wp2_with fail
                          with_reducible refine Calls.mono (HVQ.out _) ?_
                          rintro e w18 ⟨rfl, hb⟩
                          replace Hp := Lib.hid (Hp.out.go hb)
                          replace Hs := Lib.hid (Hs.out.go hb)
                          replace Hm := Lib.hid (Hm.out.go hb)
                          replace HB := Lib.hid (HB.out.trans (hb.mono HB.out.size))
                          clear hb HVQ
                          clear p0 p1 p2 pl s0 s1 s2 sl m0 m1 m2 ml
                          have p0 := Hp.out.c0; have p1 := Hp.out.c1; have p2 := Hp.out.c2; have pl := Hp.out.lt
                          have s0 := Hs.out.c0; have s1 := Hs.out.c1; have s2 := Hs.out.c2; have sl := Hs.out.lt
                          have m0 := Hm.out.c0; have m1 := Hm.out.c1; have m2 := Hm.out.c2; have ml := Hm.out.lt
                          go_wp2_with fail
                          go_ret
                          exact ⟨rfl, HB.out⟩
                      · rw [show decide (PtOk ⟨p.x, p.y, p.z⟩) = false from decide_eq_false cp] at HV
                        clear HSI so cp
                        have p0 := Hp.out.c0; have p1 := Hp.out.c1; have p2 := Hp.out.c2; have pl := Hp.out.lt
                        have s0 := Hs.out.c0; have s1 := Hs.out.c1; have s2 := Hs.out.c2; have sl := Hs.out.lt
                        go_wp2_with fail
                        with_reducible refine Calls.mono (HV.out _) ?_
                        rintro e w4 ⟨rfl, hb⟩
                        replace Hp := Lib.hid (Hp.out.go hb)
                        replace Hs := Lib.hid (Hs.out.go hb)
                        replace HB := Lib.hid (HB.out.trans (hb.mono HB.out.size))
                        clear hb HV
                        clear p0 p1 p2 pl s0 s1 s2 sl
                        have p0 := Hp.out.c0; have p1 := Hp.out.c1; have p2 := Hp.out.c2; have pl := Hp.out.lt
                        have s0 := Hs.out.c0; have s1 := Hs.out.c1; have s2 := Hs.out.c2; have sl := Hs.out.lt
                        go_wp2_with fail
                        go_ret
                        exact ⟨rfl, HB.out⟩
    · rw [solPB_no so] at HR
      clear so HSI HV
      go_enter Try.func7, Try.ntmps7
      go_upto_region 1 with fail
      obtain ⟨w0, hw0⟩ : ∃ w0, w0 = (w.alloc (.cells #[.int .i64 p.x, .int .i64 p.y, .int .i64 p.z] 24)).alloc (.cells #[.int .i64 s.x, .int .i64 s.y, .int .i64 s.z] 24) := ⟨_, rfl⟩
      have HB : Hid (Below w.heap.size w w0) := Lib.hid (by rw [hw0]; exact ((Below.refl _ _).alloc (Nat.le_refl _) _).alloc (by simp) _)
      have Hp : Hid (P3At w0 w.heap.size p) := Lib.hid (by rw [hw0]; exact (heap2 w _ _).1)
      have Hs : Hid (P3At w0 (w.heap.size + 1) s) := Lib.hid (by rw [hw0]; exact (heap2 w _ _).2)
      rw [← hw0]
      clear hw0
      generalize w.heap.size + 1 = gs at *
      obtain ⟨gp, hgp⟩ : ∃ gp, gp = w.heap.size := ⟨_, rfl⟩
      rw [← hgp] at Hp
      simp only [← hgp]
      clear hgp
      have p0 := Hp.out.c0; have p1 := Hp.out.c1; have p2 := Hp.out.c2; have pl := Hp.out.lt
      have s0 := Hs.out.c0; have s1 := Hs.out.c1; have s2 := Hs.out.c2; have sl := Hs.out.lt
      go_wp2_with fail
      with_reducible refine Calls.mono (HSM.out _) ?_
      rintro e w1 ⟨rfl, hb⟩
      replace Hp := Lib.hid (Hp.out.go hb)
      replace Hs := Lib.hid (Hs.out.go hb)
      replace HB := Lib.hid (HB.out.trans (hb.mono HB.out.size))
      clear hb HSM
      clear p0 p1 p2 pl s0 s1 s2 sl
      have p0 := Hp.out.c0; have p1 := Hp.out.c1; have p2 := Hp.out.c2; have pl := Hp.out.lt
      have s0 := Hs.out.c0; have s1 := Hs.out.c1; have s2 := Hs.out.c2; have sl := Hs.out.lt
      go_wp2_with fail
      with_reducible refine Calls.mono (HFW.out _ HB.out) ?_
      rintro e w2 ⟨rfl, hb⟩
      replace Hp := Lib.hid (Hp.out.go hb)
      replace Hs := Lib.hid (Hs.out.go hb)
      replace HB := Lib.hid (HB.out.trans (hb.mono HB.out.size))
      clear hb HFW
      clear p0 p1 p2 pl s0 s1 s2 sl
      have p0 := Hp.out.c0; have p1 := Hp.out.c1; have p2 := Hp.out.c2; have pl := Hp.out.lt
      have s0 := Hs.out.c0; have s1 := Hs.out.c1; have s2 := Hs.out.c2; have sl := Hs.out.lt
      go_wp2_with fail
      with_reducible refine Calls.mono (HR.out _ HB.out) ?_
      rintro e w3 ⟨rfl, hb⟩
      replace Hp := Lib.hid (Hp.out.go hb)
      replace Hs := Lib.hid (Hs.out.go hb)
      replace HB := Lib.hid (HB.out.trans (hb.mono HB.out.size))
      clear hb HR
      clear p0 p1 p2 pl s0 s1 s2 sl
      have p0 := Hp.out.c0; have p1 := Hp.out.c1; have p2 := Hp.out.c2; have pl := Hp.out.lt
      have s0 := Hs.out.c0; have s1 := Hs.out.c1; have s2 := Hs.out.c2; have sl := Hs.out.lt
      go_wp2_with fail
      go_ret
      exact ⟨rfl, HB.out⟩
  · rw [few11_no hf] at HFW
    clear hl hc hs hf HV
    go_enter Try.func7, Try.ntmps7
    go_upto_region 1 with fail
    obtain ⟨w0, hw0⟩ : ∃ w0, w0 = (w.alloc (.cells #[.int .i64 p.x, .int .i64 p.y, .int .i64 p.z] 24)).alloc (.cells #[.int .i64 s.x, .int .i64 s.y, .int .i64 s.z] 24) := ⟨_, rfl⟩
    have HB : Hid (Below w.heap.size w w0) := Lib.hid (by rw [hw0]; exact ((Below.refl _ _).alloc (Nat.le_refl _) _).alloc (by simp) _)
    have Hp : Hid (P3At w0 w.heap.size p) := Lib.hid (by rw [hw0]; exact (heap2 w _ _).1)
    have Hs : Hid (P3At w0 (w.heap.size + 1) s) := Lib.hid (by rw [hw0]; exact (heap2 w _ _).2)
    rw [← hw0]
    clear hw0
    generalize w.heap.size + 1 = gs at *
    obtain ⟨gp, hgp⟩ : ∃ gp, gp = w.heap.size := ⟨_, rfl⟩
    rw [← hgp] at Hp
    simp only [← hgp]
    clear hgp
    have p0 := Hp.out.c0; have p1 := Hp.out.c1; have p2 := Hp.out.c2; have pl := Hp.out.lt
    have s0 := Hs.out.c0; have s1 := Hs.out.c1; have s2 := Hs.out.c2; have sl := Hs.out.lt
    go_wp2_with fail
    with_reducible refine Calls.mono (HSM.out _) ?_
    rintro e w1 ⟨rfl, hb⟩
    replace Hp := Lib.hid (Hp.out.go hb)
    replace Hs := Lib.hid (Hs.out.go hb)
    replace HB := Lib.hid (HB.out.trans (hb.mono HB.out.size))
    clear hb HSM
    clear p0 p1 p2 pl s0 s1 s2 sl
    have p0 := Hp.out.c0; have p1 := Hp.out.c1; have p2 := Hp.out.c2; have pl := Hp.out.lt
    have s0 := Hs.out.c0; have s1 := Hs.out.c1; have s2 := Hs.out.c2; have sl := Hs.out.lt
    go_wp2_with fail
    with_reducible refine Calls.mono (HFW.out _ HB.out) ?_
    rintro e w2 ⟨rfl, hb⟩
    replace Hp := Lib.hid (Hp.out.go hb)
    replace Hs := Lib.hid (Hs.out.go hb)
    replace HB := Lib.hid (HB.out.trans (hb.mono HB.out.size))
    clear hb HFW
    clear p0 p1 p2 pl s0 s1 s2 sl
    have p0 := Hp.out.c0; have p1 := Hp.out.c1; have p2 := Hp.out.c2; have pl := Hp.out.lt
    have s0 := Hs.out.c0; have s1 := Hs.out.c1; have s2 := Hs.out.c2; have sl := Hs.out.lt
    go_wp2_with fail
    go_ret
    exact ⟨rfl, HB.out⟩
end Go.Proofs.Ytkjblmfmaenllaa
