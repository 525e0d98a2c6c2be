/-
  SightUnion: the walk of the law.
-/
import Derived.Test.YtkjblmfmaenllaaYt
import Derived.Test.YtkjblmfmaenllaaYo
import Derived.Test.YtkjblmfmaenllaaBk
import Derived.Test.YtkjblmfmaenllaaAl
set_option linter.unusedVariables false
set_option maxRecDepth 100000
namespace Go.Proofs.Ytkjblmfmaenllaa
open Go.RowKit

/-- what the last regions read: three points. -/
def Tp11 (g gq gd : Nat) (p q d : V3) (w0 w : World) : Prop := w.cell? ⟨g, 0, none⟩ = some (.int .i64 p.x) ∧ w.cell? ⟨g, 1, none⟩ = some (.int .i64 p.y) ∧ w.cell? ⟨g, 2, none⟩ = some (.int .i64 p.z) ∧ w.cell? ⟨gq, 0, none⟩ = some (.int .i64 q.x) ∧ w.cell? ⟨gq, 1, none⟩ = some (.int .i64 q.y) ∧ w.cell? ⟨gq, 2, none⟩ = some (.int .i64 q.z) ∧ w.cell? ⟨gd, 0, none⟩ = some (.int .i64 d.x) ∧ w.cell? ⟨gd, 1, none⟩ = some (.int .i64 d.y) ∧ w.cell? ⟨gd, 2, none⟩ = some (.int .i64 d.z) ∧ g < w.heap.size ∧ gq < w.heap.size ∧ gd < w.heap.size ∧ Hid (Below w0.heap.size w0 w)
theorem Tp11.bel {g gq gd : Nat} {p q d : V3} {w0 w : World} (h : Tp11 g gq gd p q d w0 w) : Below w0.heap.size w0 w := h.2.2.2.2.2.2.2.2.2.2.2.2.out
theorem Tp11.go {g gq gd : Nat} {p q d : V3} {w0 w w' : World} (h : Tp11 g gq gd p q d w0 w) (hb : Below w.heap.size w w') : Tp11 g gq gd p q d w0 w' := by
  obtain ⟨a0, a1, a2, b0, b1, b2, c0, c1, c2, l0, l1, l2, h8⟩ := h
  have x := fun k => hb.cell (p := ⟨g, k, none⟩) l0
  have y := fun k => hb.cell (p := ⟨gq, k, none⟩) l1
  have z := fun k => hb.cell (p := ⟨gd, k, none⟩) l2
  exact ⟨(x _).trans a0, (x _).trans a1, (x _).trans a2, (y _).trans b0, (y _).trans b1, (y _).trans b2, (z _).trans c0, (z _).trans c1, (z _).trans c2, Nat.lt_of_lt_of_le l0 hb.size, Nat.lt_of_lt_of_le l1 hb.size, Nat.lt_of_lt_of_le l2 hb.size, Lib.hid (h8.out.trans (hb.mono h8.out.size))⟩
theorem Tp11.drewN {g gq gd : Nat} {p q d : V3} {w0 w : World} (h : Tp11 g gq gd p q d w0 w) (k : Nat) : Tp11 g gq gd p q d w0 (w.drewN k) := h.go (below_drewN (Below.refl _ _) k)
theorem Tp11.new (w : World) (p q d : V3) : Tp11 w.heap.size (w.heap.size + 1) (w.heap.size + 1 + 1) p q d w (((w.alloc (.cells #[.int .i64 p.x, .int .i64 p.y, .int .i64 p.z] 24)).alloc (.cells #[.int .i64 q.x, .int .i64 q.y, .int .i64 q.z] 24)).alloc (.cells #[.int .i64 d.x, .int .i64 d.y, .int .i64 d.z] 24)) := by
  obtain ⟨h0, h1, h2⟩ := heap3 w (.cells #[.int .i64 p.x, .int .i64 p.y, .int .i64 p.z] 24) (.cells #[.int .i64 q.x, .int .i64 q.y, .int .i64 q.z] 24) (.cells #[.int .i64 d.x, .int .i64 d.y, .int .i64 d.z] 24)
  exact ⟨by rw [Lib.cell_of_heap h0]; rfl, by rw [Lib.cell_of_heap h0]; rfl, by rw [Lib.cell_of_heap h0]; rfl, by rw [Lib.cell_of_heap h1]; rfl, by rw [Lib.cell_of_heap h1]; rfl, by rw [Lib.cell_of_heap h1]; rfl, by rw [Lib.cell_of_heap h2]; rfl, by rw [Lib.cell_of_heap h2]; rfl, by rw [Lib.cell_of_heap h2]; rfl, (Array.getElem?_eq_some_iff.1 h0).1, (Array.getElem?_eq_some_iff.1 h1).1, (Array.getElem?_eq_some_iff.1 h2).1, Lib.hid ((((Below.refl _ _).alloc (Nat.le_refl _) _).alloc (by simp) _).alloc (by simp; omega) _)⟩
theorem tp_id {g gq gd : Nat} {p q d : V3} {w0 w : World} (h : Tp11 g gq gd p q d w0 w) : Tp11 g gq gd p q d w0 w := h
theorem dright_b (A : Option Addr) (cap : Nat) (S : List Sl) (w : World) (h : SIn w A cap S) : Calls Try.prog 15 #[.slice A S.length cap] w (BlIs (solPB S) w) := by
  by_cases hs : SolP S
  · rw [solPB_yes hs]; exact dright_yes h hs
  · rw [solPB_no hs]; exact dright_no h hs
set_option maxHeartbeats 40000000 in
theorem union11_walk (A : Option Addr) (ca : Nat) (a : List Sl) (B : Option Addr) (cb : Nat) (b : List Sl) (p q d : V3) (w : World) (hla : SlRow0 w A a) (hca : a.length ≤ ca) (hsa : ca ≤ 9223372036854775807) (hlb : SlRow0 w B b) (hcb : b.length ≤ cb) (hsb : cb ≤ 9223372036854775807) : Calls Try.prog 5 #[.slice A a.length ca, .slice B b.length cb, .agg #[.int .i64 p.x, .int .i64 p.y, .int .i64 p.z], .agg #[.int .i64 q.x, .int .i64 q.y, .int .i64 q.z], .agg #[.int .i64 d.x, .int .i64 d.y, .int .i64 d.z]] w (BlIs true w) := by
  have HSM := Lib.hid (fun w' => jsmall_any w')
  have HFA := Lib.hid (fun w' (hb : Below w.heap.size w w') => jfew_any A ca a w' (slrow0_below hla hb) (Nat.le_trans hca hsa))
  have HFB := Lib.hid (fun w' (hb : Below w.heap.size w w') => jfew_any B cb b w' (slrow0_below hlb hb) (Nat.le_trans hcb hsb))
  have E0 := Lib.hid (Tp11.new w p q d)
  by_cases fa : Few11 a
  · rw [few11_yes fa] at HFA
    by_cases fb : Few11 b
    · rw [few11_yes fb] at HFB
      have HSA := Lib.hid (few11_in hla hca hsa fa)
      have HSB := Lib.hid (few11_in hlb hcb hsb fb)
      have HRA := Lib.hid (fun w' (hb : Below w.heap.size w w') => dright_b A ca a w' (HSA.out.below hb))
      have HRB := Lib.hid (fun w' (hb : Below w.heap.size w w') => dright_b B cb b w' (HSB.out.below hb))
      clear hla hca hsa hlb hcb hsb fa fb
      by_cases sa : SolP a
      · rw [solPB_yes sa] at HRA
        by_cases sb : SolP b
        · rw [solPB_yes sb] at HRB
          have HUN := Lib.hid (fun w' (hb : Below w.heap.size w w') => bunion_any A ca B cb a b w' (HSA.out.below hb) (HSB.out.below hb))
          have H1 := Lib.hid (fun w' (hb : Below w.heap.size w w') => sblocked_any A ca a p q w' (HSA.out.below hb))
          have H2 := Lib.hid (fun w' (hb : Below w.heap.size w w') => sblocked_any B cb b p q w' (HSB.out.below hb))
          have H3 := Lib.hid (fun w' (hb : Below w.heap.size w w') => sray_any A ca a p d w' (HSA.out.below hb))
          have H4 := Lib.hid (fun w' (hb : Below w.heap.size w w') => sray_any B cb b p d w' (HSB.out.below hb))
          have H5 := Lib.hid (fun w' (hb : Below w.heap.size w w') => sblocked_any A ca a q p w' (HSA.out.below hb))
          have HBK := Lib.hid (bk_back sa p q)
          rcases union_ok sa sb with ⟨u, hu, su, hcu⟩ | hu
          · have HOR := Lib.hid (bk_or sa sb su hcu p q)
            have HRR := Lib.hid (ry_or sa sb su hcu p d)
            obtain ⟨nu, hnu⟩ : ∃ nu, nu = u.length := ⟨_, rfl⟩
            have HUN2 : Hid (∀ w', Below w.heap.size w w' → Calls Try.prog 20 #[.slice A a.length ca, .slice B b.length cb] w' (Of11 nu u w')) := Lib.hid (fun w' hb => by
              have := HUN.out w' hb
              rw [hu] at this
              rw [hnu]; exact this)
            have HNU := Lib.hid hnu
            clear sa sb hu hcu su HSA HSB HUN hnu
            go_enter Try.func5, Try.ntmps5
            go_upto_region 1 with fail
            generalize World.alloc (World.alloc (World.alloc w _) _) _ = W at *
            generalize w.heap.size + 1 + 1 = gd at *
            generalize w.heap.size + 1 = gq at *
            obtain ⟨g, hg⟩ : ∃ g, g = w.heap.size := ⟨_, rfl⟩
            have E0' : Hid (Tp11 g gq gd p q d w W) := by rw [hg]; exact E0
            clear E0
            simp only [← hg]
            clear hg
            go_wp2_with fail
            refine (HSM.out _).mono ?_
            rintro e w1 ⟨rfl, hb⟩
            have E1 := Lib.hid (E0'.out.go hb)
            clear hb E0' HSM
            go_wp2_with fail
            refine (HFA.out _ E1.out.bel).mono ?_
            rintro e w2 ⟨rfl, hb⟩
            have E2 := Lib.hid (E1.out.go hb)
            clear hb E1 HFA
            go_wp2_with fail
            refine (HFB.out _ E2.out.bel).mono ?_
            rintro e w3 ⟨rfl, hb⟩
            have E3 := Lib.hid (E2.out.go hb)
            clear hb E2 HFB
            go_wp2_with fail
            refine (HRA.out _ E3.out.bel).mono ?_
            rintro e w4 ⟨rfl, hb⟩
            have E4 := Lib.hid (E3.out.go hb)
            clear hb E3 HRA
            go_wp2_with fail
            refine (HRB.out _ E4.out.bel).mono ?_
            rintro e w5 ⟨rfl, hb⟩
            have E5 := Lib.hid (E4.out.go hb)
            clear hb E4 HRB
            go_wp2_with fail
            refine (HUN2.out _ E5.out.bel).mono ?_
            rintro e w6 ⟨U, cu, rfl, hsu, hb⟩
            have E6 := Lib.hid (E5.out.go hb)
            have HU1 := Lib.hid (fun w' (hb : Below w6.heap.size w6 w') => blk_nd U cu nu u HNU.out p.x p.y p.z q.x q.y q.z w' (hsu.below hb))
            have HU2 := Lib.hid (fun w' (hb : Below w6.heap.size w6 w') => ray_nd U cu nu u HNU.out p.x p.y p.z d.x d.y d.z w' (hsu.below hb))
            clear hb E5 HUN2 hsu HNU
            go_upto_region 7 with fail
            have EB := E6.out.bel
            obtain ⟨V, hV⟩ : ∃ V : World, V = w6 := ⟨_, rfl⟩
            have E7 : Hid (Tp11 g gq gd p q d w6 w6) := Lib.hid ⟨E6.out.1, E6.out.2.1, E6.out.2.2.1, E6.out.2.2.2.1, E6.out.2.2.2.2.1, E6.out.2.2.2.2.2.1, E6.out.2.2.2.2.2.2.1, E6.out.2.2.2.2.2.2.2.1, E6.out.2.2.2.2.2.2.2.2.1, E6.out.2.2.2.2.2.2.2.2.2.1, E6.out.2.2.2.2.2.2.2.2.2.2.1, E6.out.2.2.2.2.2.2.2.2.2.2.2.1, Lib.hid (Below.refl _ _)⟩
            have HEB := Lib.hid EB
            clear EB hV E6
            have G0 : Hid (∀ w', Below w6.heap.size w6 w' → Calls Try.prog 11 #[.slice U nu cu, .agg #[.int .i64 p.x, .int .i64 p.y, .int .i64 p.z], .agg #[.int .i64 q.x, .int .i64 q.y, .int .i64 q.z]] w' (BlIs (bkB u p q) w')) := Lib.hid (fun w' hh => HU1.out w' hh)
            have G1 : Hid (∀ w', Below w6.heap.size w6 w' → Calls Try.prog 11 #[.slice A a.length ca, .agg #[.int .i64 p.x, .int .i64 p.y, .int .i64 p.z], .agg #[.int .i64 q.x, .int .i64 q.y, .int .i64 q.z]] w' (BlIs (bkB a p q) w')) := Lib.hid (fun w' hh => H1.out w' (HEB.out.trans (hh.mono HEB.out.size)))
            have G2 : Hid (∀ w', Below w6.heap.size w6 w' → Calls Try.prog 11 #[.slice B b.length cb, .agg #[.int .i64 p.x, .int .i64 p.y, .int .i64 p.z], .agg #[.int .i64 q.x, .int .i64 q.y, .int .i64 q.z]] w' (BlIs (bkB b p q) w')) := Lib.hid (fun w' hh => H2.out w' (HEB.out.trans (hh.mono HEB.out.size)))
            have G3 : Hid (∀ w', Below w6.heap.size w6 w' → Calls Try.prog 13 #[.slice U nu cu, .agg #[.int .i64 p.x, .int .i64 p.y, .int .i64 p.z], .agg #[.int .i64 d.x, .int .i64 d.y, .int .i64 d.z]] w' (BlIs (ryB u p d) w')) := Lib.hid (fun w' hh => HU2.out w' hh)
            have G4 : Hid (∀ w', Below w6.heap.size w6 w' → Calls Try.prog 13 #[.slice A a.length ca, .agg #[.int .i64 p.x, .int .i64 p.y, .int .i64 p.z], .agg #[.int .i64 d.x, .int .i64 d.y, .int .i64 d.z]] w' (BlIs (ryB a p d) w')) := Lib.hid (fun w' hh => H3.out w' (HEB.out.trans (hh.mono HEB.out.size)))
            have G5 : Hid (∀ w', Below w6.heap.size w6 w' → Calls Try.prog 13 #[.slice B b.length cb, .agg #[.int .i64 p.x, .int .i64 p.y, .int .i64 p.z], .agg #[.int .i64 d.x, .int .i64 d.y, .int .i64 d.z]] w' (BlIs (ryB b p d) w')) := Lib.hid (fun w' hh => H4.out w' (HEB.out.trans (hh.mono HEB.out.size)))
            have G6 : Hid (∀ w', Below w6.heap.size w6 w' → Calls Try.prog 11 #[.slice A a.length ca, .agg #[.int .i64 q.x, .int .i64 q.y, .int .i64 q.z], .agg #[.int .i64 p.x, .int .i64 p.y, .int .i64 p.z]] w' (BlIs (bkB a q p) w')) := Lib.hid (fun w' hh => H5.out w' (HEB.out.trans (hh.mono HEB.out.size)))
            clear H1 H2 H3 H4 H5 HU1 HU2
            rw [HBK.out] at G1
            rw [HOR.out, HBK.out] at G0
            rw [HRR.out] at G3
            generalize bkB a q p = b1 at *
            generalize bkB b p q = b2 at *
            generalize ryB a p d = r1 at *
            generalize ryB b p d = r2 at *
            clear HOR HRR HBK
            go_upto_region 7 with fail
            go_cut [14] (fun s14 wx => s14 = .bool true ∧ Hid (Tp11 g gq gd p q d w6 wx))
            case first =>
              obtain ⟨x0, x1, x2, y0, y1, y2, z0, z1, z2, l0, l1, l2, _⟩ := E7.out
              have eb : (b2 == b2) = true := by simp
              cases b1 with
              | true =>
                simp only [Bool.true_or] at G0
                refine wp_region_held_drew (S := (fun w' => w'.cell? ⟨g, 0, none⟩ = some (.int .i64 p.x) ∧ w'.cell? ⟨g, 1, none⟩ = some (.int .i64 p.y) ∧ w'.cell? ⟨g, 2, none⟩ = some (.int .i64 p.z) ∧ w'.cell? ⟨gq, 0, none⟩ = some (.int .i64 q.x) ∧ w'.cell? ⟨gq, 1, none⟩ = some (.int .i64 q.y) ∧ w'.cell? ⟨gq, 2, none⟩ = some (.int .i64 q.z) ∧ w'.cell? ⟨gd, 0, none⟩ = some (.int .i64 d.x) ∧ w'.cell? ⟨gd, 1, none⟩ = some (.int .i64 d.y) ∧ w'.cell? ⟨gd, 2, none⟩ = some (.int .i64 d.z) ∧ g < w'.heap.size ∧ gq < w'.heap.size ∧ gd < w'.heap.size ∧ Hid (Below w6.heap.size w6 w'))) (by kernel_rfl) ?_ (fun hHeld => ?_)
                · exact Tp11.drewN E7.out 1
                refine wpAnyH_take (i := 0) (oi := { dst := some 49, op := Go.Op.move (Go.Operand.tmp 12), type := 22, pos := "law.go:93", after := #[], guard := none }) (v := ?_) rfl (by kernel_rfl) (by kernel_rfl) (by kernel_rfl) (fun _ _ _ h => h) (Or.inl ⟨by rfl, ?_⟩) (by assumption) ?_
                rotate_left
                · (intro w hSw; (try dsimp only at hSw); go_simp); try with_reducible rfl
                try simp only [Act.put, List.setIfInBounds_toArray, List.set_cons_zero, List.set_cons_succ]
                refine wpAnyH_take (i := 1) (oi := { dst := some 50, op := Go.Op.load 24 (Go.Operand.tmp 7), type := 24, pos := "law.go:93", after := #[], guard := none }) (v := ?_) rfl (by kernel_rfl) (by kernel_rfl) (by kernel_rfl) (fun _ _ _ h => h) (Or.inl ⟨by rfl, ?_⟩) (by assumption) ?_
                rotate_left
                · (intro w hSw; (try dsimp only at hSw); go_simp); try with_reducible rfl
                try simp only [Act.put, List.setIfInBounds_toArray, List.set_cons_zero, List.set_cons_succ]
                refine wpAnyH_take (i := 2) (oi := { dst := some 51, op := Go.Op.load 24 (Go.Operand.tmp 8), type := 24, pos := "law.go:93", after := #[], guard := none }) (v := ?_) rfl (by kernel_rfl) (by kernel_rfl) (by kernel_rfl) (fun _ _ _ h => h) (Or.inl ⟨by rfl, ?_⟩) (by assumption) ?_
                rotate_left
                · (intro w hSw; (try dsimp only at hSw); go_simp); try with_reducible rfl
                try simp only [Act.put, List.setIfInBounds_toArray, List.set_cons_zero, List.set_cons_succ]
                refine wpAnyH_take (i := 4) (oi := { dst := some 53, op := Go.Op.move (Go.Operand.tmp 0), type := 22, pos := "law.go:93", after := #[], guard := none }) (v := ?_) rfl (by kernel_rfl) (by kernel_rfl) (by kernel_rfl) (fun _ _ _ h => h) (Or.inl ⟨by rfl, ?_⟩) (by assumption) ?_
                rotate_left
                · (intro w hSw; (try dsimp only at hSw); go_simp); try with_reducible rfl
                try simp only [Act.put, List.setIfInBounds_toArray, List.set_cons_zero, List.set_cons_succ]
                refine wpAnyH_take (i := 5) (oi := { dst := some 54, op := Go.Op.load 24 (Go.Operand.tmp 7), type := 24, pos := "law.go:93", after := #[], guard := none }) (v := ?_) rfl (by kernel_rfl) (by kernel_rfl) (by kernel_rfl) (fun _ _ _ h => h) (Or.inl ⟨by rfl, ?_⟩) (by assumption) ?_
                rotate_left
                · (intro w hSw; (try dsimp only at hSw); go_simp); try with_reducible rfl
                try simp only [Act.put, List.setIfInBounds_toArray, List.set_cons_zero, List.set_cons_succ]
                refine wpAnyH_take (i := 6) (oi := { dst := some 55, op := Go.Op.load 24 (Go.Operand.tmp 8), type := 24, pos := "law.go:93", after := #[], guard := none }) (v := ?_) rfl (by kernel_rfl) (by kernel_rfl) (by kernel_rfl) (fun _ _ _ h => h) (Or.inl ⟨by rfl, ?_⟩) (by assumption) ?_
                rotate_left
                · (intro w hSw; (try dsimp only at hSw); go_simp); try with_reducible rfl
                try simp only [Act.put, List.setIfInBounds_toArray, List.set_cons_zero, List.set_cons_succ]
                refine wpAnyH_ready (rs := [3]) (by kernel_rfl) (by simp) ?_
                refine (AllReadyH.cons (o := { dst := some 52, op := Go.Op.call { callee := Go.Callee.value (Go.Operand.func 11), args := #[Go.Operand.tmp 49, Go.Operand.tmp 50, Go.Operand.tmp 51], argTypes := #[22, 24, 24] }, type := 4, pos := "law.go:93", after := #[{ on := 0, ground := Go.Ground.data }, { on := 1, ground := Go.Ground.data }, { on := 2, ground := Go.Ground.data }], guard := none }) rfl (fun K0 hK => ?_) AllReadyH.nil)
                have hbq9 := Tp11.bel (g := g) (gq := gq) (gd := gd) (p := p) (q := q) (d := d) (w0 := w6) hHeld
                go_simp
                go_at_call 11
                with_reducible refine Calls.mono (G0.out _ hbq9) ?_
                rintro e w93 ⟨rfl, hb⟩
                try go_wp2_with fail
                refine hK.out _ _ (Tp11.go (g := g) (gq := gq) (gd := gd) (p := p) (q := q) (d := d) (w0 := w6) (by assumption) hb) (fun hHeld2 => ?_)
                clear hK K0 hHeld hb hbq9
                have hHeld := hHeld2; clear hHeld2
                try simp only [Act.put, List.setIfInBounds_toArray, List.set_cons_zero, List.set_cons_succ]
                refine wpAnyH_ready (rs := [7]) (by kernel_rfl) (by simp) ?_
                refine (AllReadyH.cons (o := { dst := some 56, op := Go.Op.call { callee := Go.Callee.value (Go.Operand.func 11), args := #[Go.Operand.tmp 53, Go.Operand.tmp 54, Go.Operand.tmp 55], argTypes := #[22, 24, 24] }, type := 4, pos := "law.go:93", after := #[{ on := 4, ground := Go.Ground.data }, { on := 5, ground := Go.Ground.data }, { on := 6, ground := Go.Ground.data }, { on := 3, ground := Go.Ground.chain }], guard := none }) rfl (fun K1 hK => ?_) AllReadyH.nil)
                have hbq9 := Tp11.bel (g := g) (gq := gq) (gd := gd) (p := p) (q := q) (d := d) (w0 := w6) hHeld
                go_simp
                go_at_call 11
                with_reducible refine Calls.mono (G1.out _ hbq9) ?_
                rintro e w97 ⟨rfl, hb⟩
                try go_wp2_with fail
                refine hK.out _ _ (Tp11.go (g := g) (gq := gq) (gd := gd) (p := p) (q := q) (d := d) (w0 := w6) (by assumption) hb) (fun hHeld2 => ?_)
                clear hK K1 hHeld hb hbq9
                have hHeld := hHeld2; clear hHeld2
                try simp only [Act.put, List.setIfInBounds_toArray, List.set_cons_zero, List.set_cons_succ]
                refine wpAnyH_take (i := 8) (oi := { dst := some 57, op := Go.Op.move (Go.Operand.tmp 56), type := 4, pos := "law.go:93", after := #[{ on := 7, ground := Go.Ground.data }, { on := 7, ground := Go.Ground.chain }], guard := none }) (v := ?_) rfl (by kernel_rfl) (by kernel_rfl) (by kernel_rfl) (fun _ _ _ h => h) (Or.inl ⟨by rfl, ?_⟩) (by assumption) ?_
                rotate_left
                · (intro w hSw; (try dsimp only at hSw); go_simp); try with_reducible rfl
                try simp only [Act.put, List.setIfInBounds_toArray, List.set_cons_zero, List.set_cons_succ]
                refine wpAnyH_take (i := 9) (oi := { dst := some 58, op := Go.Op.move (Go.Operand.tmp 1), type := 22, pos := "law.go:93", after := #[{ on := 8, ground := Go.Ground.guard }], guard := some (8, false) }) (v := undef) rfl (by kernel_rfl) (by kernel_rfl) (by kernel_rfl) (fun _ _ _ h => h) (Or.inr ⟨by rfl, by rfl⟩) (by assumption) ?_
                try simp only [Act.put, List.setIfInBounds_toArray, List.set_cons_zero, List.set_cons_succ]
                refine wpAnyH_take (i := 10) (oi := { dst := some 59, op := Go.Op.load 24 (Go.Operand.tmp 7), type := 24, pos := "law.go:93", after := #[{ on := 8, ground := Go.Ground.guard }], guard := some (8, false) }) (v := undef) rfl (by kernel_rfl) (by kernel_rfl) (by kernel_rfl) (fun _ _ _ h => h) (Or.inr ⟨by rfl, by rfl⟩) (by assumption) ?_
                try simp only [Act.put, List.setIfInBounds_toArray, List.set_cons_zero, List.set_cons_succ]
                refine wpAnyH_take (i := 11) (oi := { dst := some 60, op := Go.Op.load 24 (Go.Operand.tmp 8), type := 24, pos := "law.go:93", after := #[{ on := 8, ground := Go.Ground.guard }], guard := some (8, false) }) (v := undef) rfl (by kernel_rfl) (by kernel_rfl) (by kernel_rfl) (fun _ _ _ h => h) (Or.inr ⟨by rfl, by rfl⟩) (by assumption) ?_
                try simp only [Act.put, List.setIfInBounds_toArray, List.set_cons_zero, List.set_cons_succ]
                refine wpAnyH_take (i := 12) (oi := { dst := some 61, op := Go.Op.call { callee := Go.Callee.value (Go.Operand.func 11), args := #[Go.Operand.tmp 58, Go.Operand.tmp 59, Go.Operand.tmp 60], argTypes := #[22, 24, 24] }, type := 4, pos := "law.go:93", after := #[{ on := 9, ground := Go.Ground.data }, { on := 10, ground := Go.Ground.data }, { on := 11, ground := Go.Ground.data }, { on := 8, ground := Go.Ground.chain }, { on := 8, ground := Go.Ground.guard }], guard := some (8, false) }) (v := undef) rfl (by kernel_rfl) (by kernel_rfl) (by kernel_rfl) (fun _ _ _ h => h) (Or.inr ⟨by rfl, by rfl⟩) (by assumption) ?_
                try simp only [Act.put, List.setIfInBounds_toArray, List.set_cons_zero, List.set_cons_succ]
                refine wpAnyH_take (i := 13) (oi := { dst := some 62, op := Go.Op.pick (Go.Operand.tmp 57) (Go.Operand.const (Go.Value.bool true)) (Go.Operand.tmp 61), type := 4, pos := "law.go:93", after := #[{ on := 8, ground := Go.Ground.data }, { on := 12, ground := Go.Ground.data }], guard := none }) (v := ?_) rfl (by kernel_rfl) (by kernel_rfl) (by kernel_rfl) (fun _ _ _ h => h) (Or.inl ⟨by rfl, ?_⟩) (by assumption) ?_
                rotate_left
                · (intro w hSw; (try dsimp only at hSw); go_simp); try with_reducible rfl
                try simp only [Act.put, List.setIfInBounds_toArray, List.set_cons_zero, List.set_cons_succ]
                refine wpAnyH_take (i := 14) (oi := { dst := some 63, op := Go.Op.binOp Go.BinOp.eql 4 (Go.Operand.tmp 52) (Go.Operand.tmp 62) 4, type := 4, pos := "law.go:93", after := #[{ on := 3, ground := Go.Ground.data }, { on := 13, ground := Go.Ground.data }], guard := none }) (v := ?_) rfl (by kernel_rfl) (by kernel_rfl) (by kernel_rfl) (fun _ _ _ h => h) (Or.inl ⟨by rfl, ?_⟩) (by assumption) ?_
                rotate_left
                · (intro w hSw; (try dsimp only at hSw); go_simp); try with_reducible rfl
                try simp only [Act.put, List.setIfInBounds_toArray, List.set_cons_zero, List.set_cons_succ]
                refine wpAnyH_take (i := 15) (oi := { dst := some 14, op := Go.Op.assign (Go.Operand.tmp 63), type := 4, pos := "law.go:93", after := #[{ on := 14, ground := Go.Ground.data }, { on := 12, ground := Go.Ground.chain }, { on := 0, ground := Go.Ground.phase }, { on := 1, ground := Go.Ground.phase }, { on := 2, ground := Go.Ground.phase }, { on := 3, ground := Go.Ground.phase }, { on := 4, ground := Go.Ground.phase }, { on := 5, ground := Go.Ground.phase }, { on := 6, ground := Go.Ground.phase }, { on := 7, ground := Go.Ground.phase }, { on := 8, ground := Go.Ground.phase }, { on := 9, ground := Go.Ground.phase }, { on := 10, ground := Go.Ground.phase }, { on := 11, ground := Go.Ground.phase }, { on := 12, ground := Go.Ground.phase }, { on := 13, ground := Go.Ground.phase }, { on := 14, ground := Go.Ground.phase }], guard := none }) (v := ?_) rfl (by kernel_rfl) (by kernel_rfl) (by kernel_rfl) (fun _ _ _ h => h) (Or.inl ⟨by rfl, ?_⟩) (by assumption) ?_
                rotate_left
                · (intro w hSw; (try dsimp only at hSw); go_simp); try with_reducible rfl
                try simp only [Act.put, List.setIfInBounds_toArray, List.set_cons_zero, List.set_cons_succ]
                refine wpAnyH_done (by kernel_rfl) ?_ _
                go_wp2_with fail
                go_meet
                exact ⟨rfl, Lib.hid (show Tp11 g gq gd p q d w6 _ from hHeld)⟩
              | false =>
                simp only [Bool.false_or] at G0
                refine wp_region_held_drew (S := (fun w' => w'.cell? ⟨g, 0, none⟩ = some (.int .i64 p.x) ∧ w'.cell? ⟨g, 1, none⟩ = some (.int .i64 p.y) ∧ w'.cell? ⟨g, 2, none⟩ = some (.int .i64 p.z) ∧ w'.cell? ⟨gq, 0, none⟩ = some (.int .i64 q.x) ∧ w'.cell? ⟨gq, 1, none⟩ = some (.int .i64 q.y) ∧ w'.cell? ⟨gq, 2, none⟩ = some (.int .i64 q.z) ∧ w'.cell? ⟨gd, 0, none⟩ = some (.int .i64 d.x) ∧ w'.cell? ⟨gd, 1, none⟩ = some (.int .i64 d.y) ∧ w'.cell? ⟨gd, 2, none⟩ = some (.int .i64 d.z) ∧ g < w'.heap.size ∧ gq < w'.heap.size ∧ gd < w'.heap.size ∧ Hid (Below w6.heap.size w6 w'))) (by kernel_rfl) ?_ (fun hHeld => ?_)
                · exact Tp11.drewN E7.out 1
                refine wpAnyH_take (i := 0) (oi := { dst := some 49, op := Go.Op.move (Go.Operand.tmp 12), type := 22, pos := "law.go:93", after := #[], guard := none }) (v := ?_) rfl (by kernel_rfl) (by kernel_rfl) (by kernel_rfl) (fun _ _ _ h => h) (Or.inl ⟨by rfl, ?_⟩) (by assumption) ?_
                rotate_left
                · (intro w hSw; (try dsimp only at hSw); go_simp); try with_reducible rfl
                try simp only [Act.put, List.setIfInBounds_toArray, List.set_cons_zero, List.set_cons_succ]
                refine wpAnyH_take (i := 1) (oi := { dst := some 50, op := Go.Op.load 24 (Go.Operand.tmp 7), type := 24, pos := "law.go:93", after := #[], guard := none }) (v := ?_) rfl (by kernel_rfl) (by kernel_rfl) (by kernel_rfl) (fun _ _ _ h => h) (Or.inl ⟨by rfl, ?_⟩) (by assumption) ?_
                rotate_left
                · (intro w hSw; (try dsimp only at hSw); go_simp); try with_reducible rfl
                try simp only [Act.put, List.setIfInBounds_toArray, List.set_cons_zero, List.set_cons_succ]
                refine wpAnyH_take (i := 2) (oi := { dst := some 51, op := Go.Op.load 24 (Go.Operand.tmp 8), type := 24, pos := "law.go:93", after := #[], guard := none }) (v := ?_) rfl (by kernel_rfl) (by kernel_rfl) (by kernel_rfl) (fun _ _ _ h => h) (Or.inl ⟨by rfl, ?_⟩) (by assumption) ?_
                rotate_left
                · (intro w hSw; (try dsimp only at hSw); go_simp); try with_reducible rfl
                try simp only [Act.put, List.setIfInBounds_toArray, List.set_cons_zero, List.set_cons_succ]
                refine wpAnyH_take (i := 4) (oi := { dst := some 53, op := Go.Op.move (Go.Operand.tmp 0), type := 22, pos := "law.go:93", after := #[], guard := none }) (v := ?_) rfl (by kernel_rfl) (by kernel_rfl) (by kernel_rfl) (fun _ _ _ h => h) (Or.inl ⟨by rfl, ?_⟩) (by assumption) ?_
                rotate_left
                · (intro w hSw; (try dsimp only at hSw); go_simp); try with_reducible rfl
                try simp only [Act.put, List.setIfInBounds_toArray, List.set_cons_zero, List.set_cons_succ]
                refine wpAnyH_take (i := 5) (oi := { dst := some 54, op := Go.Op.load 24 (Go.Operand.tmp 7), type := 24, pos := "law.go:93", after := #[], guard := none }) (v := ?_) rfl (by kernel_rfl) (by kernel_rfl) (by kernel_rfl) (fun _ _ _ h => h) (Or.inl ⟨by rfl, ?_⟩) (by assumption) ?_
                rotate_left
                · (intro w hSw; (try dsimp only at hSw); go_simp); try with_reducible rfl
                try simp only [Act.put, List.setIfInBounds_toArray, List.set_cons_zero, List.set_cons_succ]
                refine wpAnyH_take (i := 6) (oi := { dst := some 55, op := Go.Op.load 24 (Go.Operand.tmp 8), type := 24, pos := "law.go:93", after := #[], guard := none }) (v := ?_) rfl (by kernel_rfl) (by kernel_rfl) (by kernel_rfl) (fun _ _ _ h => h) (Or.inl ⟨by rfl, ?_⟩) (by assumption) ?_
                rotate_left
                · (intro w hSw; (try dsimp only at hSw); go_simp); try with_reducible rfl
                try simp only [Act.put, List.setIfInBounds_toArray, List.set_cons_zero, List.set_cons_succ]
                refine wpAnyH_ready (rs := [3]) (by kernel_rfl) (by simp) ?_
                refine (AllReadyH.cons (o := { dst := some 52, op := Go.Op.call { callee := Go.Callee.value (Go.Operand.func 11), args := #[Go.Operand.tmp 49, Go.Operand.tmp 50, Go.Operand.tmp 51], argTypes := #[22, 24, 24] }, type := 4, pos := "law.go:93", after := #[{ on := 0, ground := Go.Ground.data }, { on := 1, ground := Go.Ground.data }, { on := 2, ground := Go.Ground.data }], guard := none }) rfl (fun K0 hK => ?_) AllReadyH.nil)
                have hbq9 := Tp11.bel (g := g) (gq := gq) (gd := gd) (p := p) (q := q) (d := d) (w0 := w6) hHeld
                go_simp
                go_at_call 11
                with_reducible refine Calls.mono (G0.out _ hbq9) ?_
                rintro e w93 ⟨rfl, hb⟩
                try go_wp2_with fail
                refine hK.out _ _ (Tp11.go (g := g) (gq := gq) (gd := gd) (p := p) (q := q) (d := d) (w0 := w6) (by assumption) hb) (fun hHeld2 => ?_)
                clear hK K0 hHeld hb hbq9
                have hHeld := hHeld2; clear hHeld2
                try simp only [Act.put, List.setIfInBounds_toArray, List.set_cons_zero, List.set_cons_succ]
                refine wpAnyH_ready (rs := [7]) (by kernel_rfl) (by simp) ?_
                refine (AllReadyH.cons (o := { dst := some 56, op := Go.Op.call { callee := Go.Callee.value (Go.Operand.func 11), args := #[Go.Operand.tmp 53, Go.Operand.tmp 54, Go.Operand.tmp 55], argTypes := #[22, 24, 24] }, type := 4, pos := "law.go:93", after := #[{ on := 4, ground := Go.Ground.data }, { on := 5, ground := Go.Ground.data }, { on := 6, ground := Go.Ground.data }, { on := 3, ground := Go.Ground.chain }], guard := none }) rfl (fun K1 hK => ?_) AllReadyH.nil)
                have hbq9 := Tp11.bel (g := g) (gq := gq) (gd := gd) (p := p) (q := q) (d := d) (w0 := w6) hHeld
                go_simp
                go_at_call 11
                with_reducible refine Calls.mono (G1.out _ hbq9) ?_
                rintro e w97 ⟨rfl, hb⟩
                try go_wp2_with fail
                refine hK.out _ _ (Tp11.go (g := g) (gq := gq) (gd := gd) (p := p) (q := q) (d := d) (w0 := w6) (by assumption) hb) (fun hHeld2 => ?_)
                clear hK K1 hHeld hb hbq9
                have hHeld := hHeld2; clear hHeld2
                try simp only [Act.put, List.setIfInBounds_toArray, List.set_cons_zero, List.set_cons_succ]
                refine wpAnyH_take (i := 8) (oi := { dst := some 57, op := Go.Op.move (Go.Operand.tmp 56), type := 4, pos := "law.go:93", after := #[{ on := 7, ground := Go.Ground.data }, { on := 7, ground := Go.Ground.chain }], guard := none }) (v := ?_) rfl (by kernel_rfl) (by kernel_rfl) (by kernel_rfl) (fun _ _ _ h => h) (Or.inl ⟨by rfl, ?_⟩) (by assumption) ?_
                rotate_left
                · (intro w hSw; (try dsimp only at hSw); go_simp); try with_reducible rfl
                try simp only [Act.put, List.setIfInBounds_toArray, List.set_cons_zero, List.set_cons_succ]
                refine wpAnyH_take (i := 9) (oi := { dst := some 58, op := Go.Op.move (Go.Operand.tmp 1), type := 22, pos := "law.go:93", after := #[{ on := 8, ground := Go.Ground.guard }], guard := some (8, false) }) (v := ?_) rfl (by kernel_rfl) (by kernel_rfl) (by kernel_rfl) (fun _ _ _ h => h) (Or.inl ⟨by rfl, ?_⟩) (by assumption) ?_
                rotate_left
                · (intro w hSw; (try dsimp only at hSw); go_simp); try with_reducible rfl
                try simp only [Act.put, List.setIfInBounds_toArray, List.set_cons_zero, List.set_cons_succ]
                refine wpAnyH_take (i := 10) (oi := { dst := some 59, op := Go.Op.load 24 (Go.Operand.tmp 7), type := 24, pos := "law.go:93", after := #[{ on := 8, ground := Go.Ground.guard }], guard := some (8, false) }) (v := ?_) rfl (by kernel_rfl) (by kernel_rfl) (by kernel_rfl) (fun _ _ _ h => h) (Or.inl ⟨by rfl, ?_⟩) (by assumption) ?_
                rotate_left
                · (intro w hSw; (try dsimp only at hSw); go_simp); try with_reducible rfl
                try simp only [Act.put, List.setIfInBounds_toArray, List.set_cons_zero, List.set_cons_succ]
                refine wpAnyH_take (i := 11) (oi := { dst := some 60, op := Go.Op.load 24 (Go.Operand.tmp 8), type := 24, pos := "law.go:93", after := #[{ on := 8, ground := Go.Ground.guard }], guard := some (8, false) }) (v := ?_) rfl (by kernel_rfl) (by kernel_rfl) (by kernel_rfl) (fun _ _ _ h => h) (Or.inl ⟨by rfl, ?_⟩) (by assumption) ?_
                rotate_left
                · (intro w hSw; (try dsimp only at hSw); go_simp); try with_reducible rfl
                try simp only [Act.put, List.setIfInBounds_toArray, List.set_cons_zero, List.set_cons_succ]
                refine wpAnyH_ready (rs := [12]) (by kernel_rfl) (by simp) ?_
                refine (AllReadyH.cons (o := { dst := some 61, op := Go.Op.call { callee := Go.Callee.value (Go.Operand.func 11), args := #[Go.Operand.tmp 58, Go.Operand.tmp 59, Go.Operand.tmp 60], argTypes := #[22, 24, 24] }, type := 4, pos := "law.go:93", after := #[{ on := 9, ground := Go.Ground.data }, { on := 10, ground := Go.Ground.data }, { on := 11, ground := Go.Ground.data }, { on := 8, ground := Go.Ground.chain }, { on := 8, ground := Go.Ground.guard }], guard := some (8, false) }) rfl (fun K2 hK => ?_) AllReadyH.nil)
                have hbq9 := Tp11.bel (g := g) (gq := gq) (gd := gd) (p := p) (q := q) (d := d) (w0 := w6) hHeld
                go_simp
                go_at_call 11
                with_reducible refine Calls.mono (G2.out _ hbq9) ?_
                rintro e w912 ⟨rfl, hb⟩
                try go_wp2_with fail
                refine hK.out _ _ (Tp11.go (g := g) (gq := gq) (gd := gd) (p := p) (q := q) (d := d) (w0 := w6) (by assumption) hb) (fun hHeld2 => ?_)
                clear hK K2 hHeld hb hbq9
                have hHeld := hHeld2; clear hHeld2
                try simp only [Act.put, List.setIfInBounds_toArray, List.set_cons_zero, List.set_cons_succ]
                refine wpAnyH_take (i := 13) (oi := { dst := some 62, op := Go.Op.pick (Go.Operand.tmp 57) (Go.Operand.const (Go.Value.bool true)) (Go.Operand.tmp 61), type := 4, pos := "law.go:93", after := #[{ on := 8, ground := Go.Ground.data }, { on := 12, ground := Go.Ground.data }], guard := none }) (v := ?_) rfl (by kernel_rfl) (by kernel_rfl) (by kernel_rfl) (fun _ _ _ h => h) (Or.inl ⟨by rfl, ?_⟩) (by assumption) ?_
                rotate_left
                · (intro w hSw; (try dsimp only at hSw); go_simp); try with_reducible rfl
                try simp only [Act.put, List.setIfInBounds_toArray, List.set_cons_zero, List.set_cons_succ]
                refine wpAnyH_take (i := 14) (oi := { dst := some 63, op := Go.Op.binOp Go.BinOp.eql 4 (Go.Operand.tmp 52) (Go.Operand.tmp 62) 4, type := 4, pos := "law.go:93", after := #[{ on := 3, ground := Go.Ground.data }, { on := 13, ground := Go.Ground.data }], guard := none }) (v := ?_) rfl (by kernel_rfl) (by kernel_rfl) (by kernel_rfl) (fun _ _ _ h => h) (Or.inl ⟨by rfl, ?_⟩) (by assumption) ?_
                rotate_left
                · (intro w hSw; (try dsimp only at hSw); go_simp); try with_reducible rfl
                try simp only [Act.put, List.setIfInBounds_toArray, List.set_cons_zero, List.set_cons_succ]
                refine wpAnyH_take (i := 15) (oi := { dst := some 14, op := Go.Op.assign (Go.Operand.tmp 63), type := 4, pos := "law.go:93", after := #[{ on := 14, ground := Go.Ground.data }, { on := 12, ground := Go.Ground.chain }, { on := 0, ground := Go.Ground.phase }, { on := 1, ground := Go.Ground.phase }, { on := 2, ground := Go.Ground.phase }, { on := 3, ground := Go.Ground.phase }, { on := 4, ground := Go.Ground.phase }, { on := 5, ground := Go.Ground.phase }, { on := 6, ground := Go.Ground.phase }, { on := 7, ground := Go.Ground.phase }, { on := 8, ground := Go.Ground.phase }, { on := 9, ground := Go.Ground.phase }, { on := 10, ground := Go.Ground.phase }, { on := 11, ground := Go.Ground.phase }, { on := 12, ground := Go.Ground.phase }, { on := 13, ground := Go.Ground.phase }, { on := 14, ground := Go.Ground.phase }], guard := none }) (v := ?_) rfl (by kernel_rfl) (by kernel_rfl) (by kernel_rfl) (fun _ _ _ h => h) (Or.inl ⟨by rfl, ?_⟩) (by assumption) ?_
                rotate_left
                · (intro w hSw; (try dsimp only at hSw); go_simp); try with_reducible rfl
                try simp only [Act.put, List.setIfInBounds_toArray, List.set_cons_zero, List.set_cons_succ]
                refine wpAnyH_done (by kernel_rfl) ?_ _
                go_wp2_with fail
                go_meet
                exact ⟨rfl, Lib.hid (show Tp11 g gq gd p q d w6 _ from hHeld)⟩
            obtain ⟨rfl, E8⟩ := hcut
            clear E7 G0 G2
            go_upto_region 8 with fail
            go_cut [15] (fun s15 wx => s15 = .bool true ∧ Hid (Tp11 g gq gd p q d w6 wx))
            case first =>
              obtain ⟨x0, x1, x2, y0, y1, y2, z0, z1, z2, l0, l1, l2, _⟩ := E8.out
              have eb : (r2 == r2) = true := by simp
              cases r1 with
              | true =>
                simp only [Bool.true_or] at G3
                refine wp_region_held_drew (S := (fun w' => w'.cell? ⟨g, 0, none⟩ = some (.int .i64 p.x) ∧ w'.cell? ⟨g, 1, none⟩ = some (.int .i64 p.y) ∧ w'.cell? ⟨g, 2, none⟩ = some (.int .i64 p.z) ∧ w'.cell? ⟨gq, 0, none⟩ = some (.int .i64 q.x) ∧ w'.cell? ⟨gq, 1, none⟩ = some (.int .i64 q.y) ∧ w'.cell? ⟨gq, 2, none⟩ = some (.int .i64 q.z) ∧ w'.cell? ⟨gd, 0, none⟩ = some (.int .i64 d.x) ∧ w'.cell? ⟨gd, 1, none⟩ = some (.int .i64 d.y) ∧ w'.cell? ⟨gd, 2, none⟩ = some (.int .i64 d.z) ∧ g < w'.heap.size ∧ gq < w'.heap.size ∧ gd < w'.heap.size ∧ Hid (Below w6.heap.size w6 w'))) (by kernel_rfl) ?_ (fun hHeld => ?_)
                · exact Tp11.drewN E8.out 1
                refine wpAnyH_take (i := 0) (oi := { dst := some 64, op := Go.Op.move (Go.Operand.tmp 12), type := 22, pos := "law.go:94", after := #[], guard := none }) (v := ?_) rfl (by kernel_rfl) (by kernel_rfl) (by kernel_rfl) (fun _ _ _ h => h) (Or.inl ⟨by rfl, ?_⟩) (by assumption) ?_
                rotate_left
                · (intro w hSw; (try dsimp only at hSw); go_simp); try with_reducible rfl
                try simp only [Act.put, List.setIfInBounds_toArray, List.set_cons_zero, List.set_cons_succ]
                refine wpAnyH_take (i := 1) (oi := { dst := some 65, op := Go.Op.load 24 (Go.Operand.tmp 7), type := 24, pos := "law.go:94", after := #[], guard := none }) (v := ?_) rfl (by kernel_rfl) (by kernel_rfl) (by kernel_rfl) (fun _ _ _ h => h) (Or.inl ⟨by rfl, ?_⟩) (by assumption) ?_
                rotate_left
                · (intro w hSw; (try dsimp only at hSw); go_simp); try with_reducible rfl
                try simp only [Act.put, List.setIfInBounds_toArray, List.set_cons_zero, List.set_cons_succ]
                refine wpAnyH_take (i := 2) (oi := { dst := some 66, op := Go.Op.load 24 (Go.Operand.tmp 9), type := 24, pos := "law.go:94", after := #[], guard := none }) (v := ?_) rfl (by kernel_rfl) (by kernel_rfl) (by kernel_rfl) (fun _ _ _ h => h) (Or.inl ⟨by rfl, ?_⟩) (by assumption) ?_
                rotate_left
                · (intro w hSw; (try dsimp only at hSw); go_simp); try with_reducible rfl
                try simp only [Act.put, List.setIfInBounds_toArray, List.set_cons_zero, List.set_cons_succ]
                refine wpAnyH_take (i := 4) (oi := { dst := some 68, op := Go.Op.move (Go.Operand.tmp 0), type := 22, pos := "law.go:94", after := #[], guard := none }) (v := ?_) rfl (by kernel_rfl) (by kernel_rfl) (by kernel_rfl) (fun _ _ _ h => h) (Or.inl ⟨by rfl, ?_⟩) (by assumption) ?_
                rotate_left
                · (intro w hSw; (try dsimp only at hSw); go_simp); try with_reducible rfl
                try simp only [Act.put, List.setIfInBounds_toArray, List.set_cons_zero, List.set_cons_succ]
                refine wpAnyH_take (i := 5) (oi := { dst := some 69, op := Go.Op.load 24 (Go.Operand.tmp 7), type := 24, pos := "law.go:94", after := #[], guard := none }) (v := ?_) rfl (by kernel_rfl) (by kernel_rfl) (by kernel_rfl) (fun _ _ _ h => h) (Or.inl ⟨by rfl, ?_⟩) (by assumption) ?_
                rotate_left
                · (intro w hSw; (try dsimp only at hSw); go_simp); try with_reducible rfl
                try simp only [Act.put, List.setIfInBounds_toArray, List.set_cons_zero, List.set_cons_succ]
                refine wpAnyH_take (i := 6) (oi := { dst := some 70, op := Go.Op.load 24 (Go.Operand.tmp 9), type := 24, pos := "law.go:94", after := #[], guard := none }) (v := ?_) rfl (by kernel_rfl) (by kernel_rfl) (by kernel_rfl) (fun _ _ _ h => h) (Or.inl ⟨by rfl, ?_⟩) (by assumption) ?_
                rotate_left
                · (intro w hSw; (try dsimp only at hSw); go_simp); try with_reducible rfl
                try simp only [Act.put, List.setIfInBounds_toArray, List.set_cons_zero, List.set_cons_succ]
                refine wpAnyH_ready (rs := [3]) (by kernel_rfl) (by simp) ?_
                refine (AllReadyH.cons (o := { dst := some 67, op := Go.Op.call { callee := Go.Callee.value (Go.Operand.func 13), args := #[Go.Operand.tmp 64, Go.Operand.tmp 65, Go.Operand.tmp 66], argTypes := #[22, 24, 24] }, type := 4, pos := "law.go:94", after := #[{ on := 0, ground := Go.Ground.data }, { on := 1, ground := Go.Ground.data }, { on := 2, ground := Go.Ground.data }], guard := none }) rfl (fun K0 hK => ?_) AllReadyH.nil)
                have hbq9 := Tp11.bel (g := g) (gq := gq) (gd := gd) (p := p) (q := q) (d := d) (w0 := w6) hHeld
                go_simp
                go_at_call 13
                with_reducible refine Calls.mono (G3.out _ hbq9) ?_
                rintro e w93 ⟨rfl, hb⟩
                try go_wp2_with fail
                refine hK.out _ _ (Tp11.go (g := g) (gq := gq) (gd := gd) (p := p) (q := q) (d := d) (w0 := w6) (by assumption) hb) (fun hHeld2 => ?_)
                clear hK K0 hHeld hb hbq9
                have hHeld := hHeld2; clear hHeld2
                try simp only [Act.put, List.setIfInBounds_toArray, List.set_cons_zero, List.set_cons_succ]
                refine wpAnyH_ready (rs := [7]) (by kernel_rfl) (by simp) ?_
                refine (AllReadyH.cons (o := { dst := some 71, op := Go.Op.call { callee := Go.Callee.value (Go.Operand.func 13), args := #[Go.Operand.tmp 68, Go.Operand.tmp 69, Go.Operand.tmp 70], argTypes := #[22, 24, 24] }, type := 4, pos := "law.go:94", after := #[{ on := 4, ground := Go.Ground.data }, { on := 5, ground := Go.Ground.data }, { on := 6, ground := Go.Ground.data }, { on := 3, ground := Go.Ground.chain }], guard := none }) rfl (fun K1 hK => ?_) AllReadyH.nil)
                have hbq9 := Tp11.bel (g := g) (gq := gq) (gd := gd) (p := p) (q := q) (d := d) (w0 := w6) hHeld
                go_simp
                go_at_call 13
                with_reducible refine Calls.mono (G4.out _ hbq9) ?_
                rintro e w97 ⟨rfl, hb⟩
                try go_wp2_with fail
                refine hK.out _ _ (Tp11.go (g := g) (gq := gq) (gd := gd) (p := p) (q := q) (d := d) (w0 := w6) (by assumption) hb) (fun hHeld2 => ?_)
                clear hK K1 hHeld hb hbq9
                have hHeld := hHeld2; clear hHeld2
                try simp only [Act.put, List.setIfInBounds_toArray, List.set_cons_zero, List.set_cons_succ]
                refine wpAnyH_take (i := 8) (oi := { dst := some 72, op := Go.Op.move (Go.Operand.tmp 71), type := 4, pos := "law.go:94", after := #[{ on := 7, ground := Go.Ground.data }, { on := 7, ground := Go.Ground.chain }], guard := none }) (v := ?_) rfl (by kernel_rfl) (by kernel_rfl) (by kernel_rfl) (fun _ _ _ h => h) (Or.inl ⟨by rfl, ?_⟩) (by assumption) ?_
                rotate_left
                · (intro w hSw; (try dsimp only at hSw); go_simp); try with_reducible rfl
                try simp only [Act.put, List.setIfInBounds_toArray, List.set_cons_zero, List.set_cons_succ]
                refine wpAnyH_take (i := 9) (oi := { dst := some 73, op := Go.Op.move (Go.Operand.tmp 1), type := 22, pos := "law.go:94", after := #[{ on := 8, ground := Go.Ground.guard }], guard := some (8, false) }) (v := undef) rfl (by kernel_rfl) (by kernel_rfl) (by kernel_rfl) (fun _ _ _ h => h) (Or.inr ⟨by rfl, by rfl⟩) (by assumption) ?_
                try simp only [Act.put, List.setIfInBounds_toArray, List.set_cons_zero, List.set_cons_succ]
                refine wpAnyH_take (i := 10) (oi := { dst := some 74, op := Go.Op.load 24 (Go.Operand.tmp 7), type := 24, pos := "law.go:94", after := #[{ on := 8, ground := Go.Ground.guard }], guard := some (8, false) }) (v := undef) rfl (by kernel_rfl) (by kernel_rfl) (by kernel_rfl) (fun _ _ _ h => h) (Or.inr ⟨by rfl, by rfl⟩) (by assumption) ?_
                try simp only [Act.put, List.setIfInBounds_toArray, List.set_cons_zero, List.set_cons_succ]
                refine wpAnyH_take (i := 11) (oi := { dst := some 75, op := Go.Op.load 24 (Go.Operand.tmp 9), type := 24, pos := "law.go:94", after := #[{ on := 8, ground := Go.Ground.guard }], guard := some (8, false) }) (v := undef) rfl (by kernel_rfl) (by kernel_rfl) (by kernel_rfl) (fun _ _ _ h => h) (Or.inr ⟨by rfl, by rfl⟩) (by assumption) ?_
                try simp only [Act.put, List.setIfInBounds_toArray, List.set_cons_zero, List.set_cons_succ]
                refine wpAnyH_take (i := 12) (oi := { dst := some 76, op := Go.Op.call { callee := Go.Callee.value (Go.Operand.func 13), args := #[Go.Operand.tmp 73, Go.Operand.tmp 74, Go.Operand.tmp 75], argTypes := #[22, 24, 24] }, type := 4, pos := "law.go:94", after := #[{ on := 9, ground := Go.Ground.data }, { on := 10, ground := Go.Ground.data }, { on := 11, ground := Go.Ground.data }, { on := 8, ground := Go.Ground.chain }, { on := 8, ground := Go.Ground.guard }], guard := some (8, false) }) (v := undef) rfl (by kernel_rfl) (by kernel_rfl) (by kernel_rfl) (fun _ _ _ h => h) (Or.inr ⟨by rfl, by rfl⟩) (by assumption) ?_
                try simp only [Act.put, List.setIfInBounds_toArray, List.set_cons_zero, List.set_cons_succ]
                refine wpAnyH_take (i := 13) (oi := { dst := some 77, op := Go.Op.pick (Go.Operand.tmp 72) (Go.Operand.const (Go.Value.bool true)) (Go.Operand.tmp 76), type := 4, pos := "law.go:94", after := #[{ on := 8, ground := Go.Ground.data }, { on := 12, ground := Go.Ground.data }], guard := none }) (v := ?_) rfl (by kernel_rfl) (by kernel_rfl) (by kernel_rfl) (fun _ _ _ h => h) (Or.inl ⟨by rfl, ?_⟩) (by assumption) ?_
                rotate_left
                · (intro w hSw; (try dsimp only at hSw); go_simp); try with_reducible rfl
                try simp only [Act.put, List.setIfInBounds_toArray, List.set_cons_zero, List.set_cons_succ]
                refine wpAnyH_take (i := 14) (oi := { dst := some 78, op := Go.Op.binOp Go.BinOp.eql 4 (Go.Operand.tmp 67) (Go.Operand.tmp 77) 4, type := 4, pos := "law.go:94", after := #[{ on := 3, ground := Go.Ground.data }, { on := 13, ground := Go.Ground.data }], guard := none }) (v := ?_) rfl (by kernel_rfl) (by kernel_rfl) (by kernel_rfl) (fun _ _ _ h => h) (Or.inl ⟨by rfl, ?_⟩) (by assumption) ?_
                rotate_left
                · (intro w hSw; (try dsimp only at hSw); go_simp); try with_reducible rfl
                try simp only [Act.put, List.setIfInBounds_toArray, List.set_cons_zero, List.set_cons_succ]
                refine wpAnyH_take (i := 15) (oi := { dst := some 15, op := Go.Op.assign (Go.Operand.tmp 78), type := 4, pos := "law.go:94", after := #[{ on := 14, ground := Go.Ground.data }, { on := 12, ground := Go.Ground.chain }, { on := 0, ground := Go.Ground.phase }, { on := 1, ground := Go.Ground.phase }, { on := 2, ground := Go.Ground.phase }, { on := 3, ground := Go.Ground.phase }, { on := 4, ground := Go.Ground.phase }, { on := 5, ground := Go.Ground.phase }, { on := 6, ground := Go.Ground.phase }, { on := 7, ground := Go.Ground.phase }, { on := 8, ground := Go.Ground.phase }, { on := 9, ground := Go.Ground.phase }, { on := 10, ground := Go.Ground.phase }, { on := 11, ground := Go.Ground.phase }, { on := 12, ground := Go.Ground.phase }, { on := 13, ground := Go.Ground.phase }, { on := 14, ground := Go.Ground.phase }], guard := none }) (v := ?_) rfl (by kernel_rfl) (by kernel_rfl) (by kernel_rfl) (fun _ _ _ h => h) (Or.inl ⟨by rfl, ?_⟩) (by assumption) ?_
                rotate_left
                · (intro w hSw; (try dsimp only at hSw); go_simp); try with_reducible rfl
                try simp only [Act.put, List.setIfInBounds_toArray, List.set_cons_zero, List.set_cons_succ]
                refine wpAnyH_done (by kernel_rfl) ?_ _
                go_wp2_with fail
                go_meet
                exact ⟨rfl, Lib.hid (show Tp11 g gq gd p q d w6 _ from hHeld)⟩
              | false =>
                simp only [Bool.false_or] at G3
                refine wp_region_held_drew (S := (fun w' => w'.cell? ⟨g, 0, none⟩ = some (.int .i64 p.x) ∧ w'.cell? ⟨g, 1, none⟩ = some (.int .i64 p.y) ∧ w'.cell? ⟨g, 2, none⟩ = some (.int .i64 p.z) ∧ w'.cell? ⟨gq, 0, none⟩ = some (.int .i64 q.x) ∧ w'.cell? ⟨gq, 1, none⟩ = some (.int .i64 q.y) ∧ w'.cell? ⟨gq, 2, none⟩ = some (.int .i64 q.z) ∧ w'.cell? ⟨gd, 0, none⟩ = some (.int .i64 d.x) ∧ w'.cell? ⟨gd, 1, none⟩ = some (.int .i64 d.y) ∧ w'.cell? ⟨gd, 2, none⟩ = some (.int .i64 d.z) ∧ g < w'.heap.size ∧ gq < w'.heap.size ∧ gd < w'.heap.size ∧ Hid (Below w6.heap.size w6 w'))) (by kernel_rfl) ?_ (fun hHeld => ?_)
                · exact Tp11.drewN E8.out 1
                refine wpAnyH_take (i := 0) (oi := { dst := some 64, op := Go.Op.move (Go.Operand.tmp 12), type := 22, pos := "law.go:94", after := #[], guard := none }) (v := ?_) rfl (by kernel_rfl) (by kernel_rfl) (by kernel_rfl) (fun _ _ _ h => h) (Or.inl ⟨by rfl, ?_⟩) (by assumption) ?_
                rotate_left
                · (intro w hSw; (try dsimp only at hSw); go_simp); try with_reducible rfl
                try simp only [Act.put, List.setIfInBounds_toArray, List.set_cons_zero, List.set_cons_succ]
                refine wpAnyH_take (i := 1) (oi := { dst := some 65, op := Go.Op.load 24 (Go.Operand.tmp 7), type := 24, pos := "law.go:94", after := #[], guard := none }) (v := ?_) rfl (by kernel_rfl) (by kernel_rfl) (by kernel_rfl) (fun _ _ _ h => h) (Or.inl ⟨by rfl, ?_⟩) (by assumption) ?_
                rotate_left
                · (intro w hSw; (try dsimp only at hSw); go_simp); try with_reducible rfl
                try simp only [Act.put, List.setIfInBounds_toArray, List.set_cons_zero, List.set_cons_succ]
                refine wpAnyH_take (i := 2) (oi := { dst := some 66, op := Go.Op.load 24 (Go.Operand.tmp 9), type := 24, pos := "law.go:94", after := #[], guard := none }) (v := ?_) rfl (by kernel_rfl) (by kernel_rfl) (by kernel_rfl) (fun _ _ _ h => h) (Or.inl ⟨by rfl, ?_⟩) (by assumption) ?_
                rotate_left
                · (intro w hSw; (try dsimp only at hSw); go_simp); try with_reducible rfl
                try simp only [Act.put, List.setIfInBounds_toArray, List.set_cons_zero, List.set_cons_succ]
                refine wpAnyH_take (i := 4) (oi := { dst := some 68, op := Go.Op.move (Go.Operand.tmp 0), type := 22, pos := "law.go:94", after := #[], guard := none }) (v := ?_) rfl (by kernel_rfl) (by kernel_rfl) (by kernel_rfl) (fun _ _ _ h => h) (Or.inl ⟨by rfl, ?_⟩) (by assumption) ?_
                rotate_left
                · (intro w hSw; (try dsimp only at hSw); go_simp); try with_reducible rfl
                try simp only [Act.put, List.setIfInBounds_toArray, List.set_cons_zero, List.set_cons_succ]
                refine wpAnyH_take (i := 5) (oi := { dst := some 69, op := Go.Op.load 24 (Go.Operand.tmp 7), type := 24, pos := "law.go:94", after := #[], guard := none }) (v := ?_) rfl (by kernel_rfl) (by kernel_rfl) (by kernel_rfl) (fun _ _ _ h => h) (Or.inl ⟨by rfl, ?_⟩) (by assumption) ?_
                rotate_left
                · (intro w hSw; (try dsimp only at hSw); go_simp); try with_reducible rfl
                try simp only [Act.put, List.setIfInBounds_toArray, List.set_cons_zero, List.set_cons_succ]
                refine wpAnyH_take (i := 6) (oi := { dst := some 70, op := Go.Op.load 24 (Go.Operand.tmp 9), type := 24, pos := "law.go:94", after := #[], guard := none }) (v := ?_) rfl (by kernel_rfl) (by kernel_rfl) (by kernel_rfl) (fun _ _ _ h => h) (Or.inl ⟨by rfl, ?_⟩) (by assumption) ?_
                rotate_left
                · (intro w hSw; (try dsimp only at hSw); go_simp); try with_reducible rfl
                try simp only [Act.put, List.setIfInBounds_toArray, List.set_cons_zero, List.set_cons_succ]
                refine wpAnyH_ready (rs := [3]) (by kernel_rfl) (by simp) ?_
                refine (AllReadyH.cons (o := { dst := some 67, op := Go.Op.call { callee := Go.Callee.value (Go.Operand.func 13), args := #[Go.Operand.tmp 64, Go.Operand.tmp 65, Go.Operand.tmp 66], argTypes := #[22, 24, 24] }, type := 4, pos := "law.go:94", after := #[{ on := 0, ground := Go.Ground.data }, { on := 1, ground := Go.Ground.data }, { on := 2, ground := Go.Ground.data }], guard := none }) rfl (fun K0 hK => ?_) AllReadyH.nil)
                have hbq9 := Tp11.bel (g := g) (gq := gq) (gd := gd) (p := p) (q := q) (d := d) (w0 := w6) hHeld
                go_simp
                go_at_call 13
                with_reducible refine Calls.mono (G3.out _ hbq9) ?_
                rintro e w93 ⟨rfl, hb⟩
                try go_wp2_with fail
                refine hK.out _ _ (Tp11.go (g := g) (gq := gq) (gd := gd) (p := p) (q := q) (d := d) (w0 := w6) (by assumption) hb) (fun hHeld2 => ?_)
                clear hK K0 hHeld hb hbq9
                have hHeld := hHeld2; clear hHeld2
                try simp only [Act.put, List.setIfInBounds_toArray, List.set_cons_zero, List.set_cons_succ]
                refine wpAnyH_ready (rs := [7]) (by kernel_rfl) (by simp) ?_
                refine (AllReadyH.cons (o := { dst := some 71, op := Go.Op.call { callee := Go.Callee.value (Go.Operand.func 13), args := #[Go.Operand.tmp 68, Go.Operand.tmp 69, Go.Operand.tmp 70], argTypes := #[22, 24, 24] }, type := 4, pos := "law.go:94", after := #[{ on := 4, ground := Go.Ground.data }, { on := 5, ground := Go.Ground.data }, { on := 6, ground := Go.Ground.data }, { on := 3, ground := Go.Ground.chain }], guard := none }) rfl (fun K1 hK => ?_) AllReadyH.nil)
                have hbq9 := Tp11.bel (g := g) (gq := gq) (gd := gd) (p := p) (q := q) (d := d) (w0 := w6) hHeld
                go_simp
                go_at_call 13
                with_reducible refine Calls.mono (G4.out _ hbq9) ?_
                rintro e w97 ⟨rfl, hb⟩
                try go_wp2_with fail
                refine hK.out _ _ (Tp11.go (g := g) (gq := gq) (gd := gd) (p := p) (q := q) (d := d) (w0 := w6) (by assumption) hb) (fun hHeld2 => ?_)
                clear hK K1 hHeld hb hbq9
                have hHeld := hHeld2; clear hHeld2
                try simp only [Act.put, List.setIfInBounds_toArray, List.set_cons_zero, List.set_cons_succ]
                refine wpAnyH_take (i := 8) (oi := { dst := some 72, op := Go.Op.move (Go.Operand.tmp 71), type := 4, pos := "law.go:94", after := #[{ on := 7, ground := Go.Ground.data }, { on := 7, ground := Go.Ground.chain }], guard := none }) (v := ?_) rfl (by kernel_rfl) (by kernel_rfl) (by kernel_rfl) (fun _ _ _ h => h) (Or.inl ⟨by rfl, ?_⟩) (by assumption) ?_
                rotate_left
                · (intro w hSw; (try dsimp only at hSw); go_simp); try with_reducible rfl
                try simp only [Act.put, List.setIfInBounds_toArray, List.set_cons_zero, List.set_cons_succ]
                refine wpAnyH_take (i := 9) (oi := { dst := some 73, op := Go.Op.move (Go.Operand.tmp 1), type := 22, pos := "law.go:94", after := #[{ on := 8, ground := Go.Ground.guard }], guard := some (8, false) }) (v := ?_) rfl (by kernel_rfl) (by kernel_rfl) (by kernel_rfl) (fun _ _ _ h => h) (Or.inl ⟨by rfl, ?_⟩) (by assumption) ?_
                rotate_left
                · (intro w hSw; (try dsimp only at hSw); go_simp); try with_reducible rfl
                try simp only [Act.put, List.setIfInBounds_toArray, List.set_cons_zero, List.set_cons_succ]
                refine wpAnyH_take (i := 10) (oi := { dst := some 74, op := Go.Op.load 24 (Go.Operand.tmp 7), type := 24, pos := "law.go:94", after := #[{ on := 8, ground := Go.Ground.guard }], guard := some (8, false) }) (v := ?_) rfl (by kernel_rfl) (by kernel_rfl) (by kernel_rfl) (fun _ _ _ h => h) (Or.inl ⟨by rfl, ?_⟩) (by assumption) ?_
                rotate_left
                · (intro w hSw; (try dsimp only at hSw); go_simp); try with_reducible rfl
                try simp only [Act.put, List.setIfInBounds_toArray, List.set_cons_zero, List.set_cons_succ]
                refine wpAnyH_take (i := 11) (oi := { dst := some 75, op := Go.Op.load 24 (Go.Operand.tmp 9), type := 24, pos := "law.go:94", after := #[{ on := 8, ground := Go.Ground.guard }], guard := some (8, false) }) (v := ?_) rfl (by kernel_rfl) (by kernel_rfl) (by kernel_rfl) (fun _ _ _ h => h) (Or.inl ⟨by rfl, ?_⟩) (by assumption) ?_
                rotate_left
                · (intro w hSw; (try dsimp only at hSw); go_simp); try with_reducible rfl
                try simp only [Act.put, List.setIfInBounds_toArray, List.set_cons_zero, List.set_cons_succ]
                refine wpAnyH_ready (rs := [12]) (by kernel_rfl) (by simp) ?_
                refine (AllReadyH.cons (o := { dst := some 76, op := Go.Op.call { callee := Go.Callee.value (Go.Operand.func 13), args := #[Go.Operand.tmp 73, Go.Operand.tmp 74, Go.Operand.tmp 75], argTypes := #[22, 24, 24] }, type := 4, pos := "law.go:94", after := #[{ on := 9, ground := Go.Ground.data }, { on := 10, ground := Go.Ground.data }, { on := 11, ground := Go.Ground.data }, { on := 8, ground := Go.Ground.chain }, { on := 8, ground := Go.Ground.guard }], guard := some (8, false) }) rfl (fun K2 hK => ?_) AllReadyH.nil)
                have hbq9 := Tp11.bel (g := g) (gq := gq) (gd := gd) (p := p) (q := q) (d := d) (w0 := w6) hHeld
                go_simp
                go_at_call 13
                with_reducible refine Calls.mono (G5.out _ hbq9) ?_
                rintro e w912 ⟨rfl, hb⟩
                try go_wp2_with fail
                refine hK.out _ _ (Tp11.go (g := g) (gq := gq) (gd := gd) (p := p) (q := q) (d := d) (w0 := w6) (by assumption) hb) (fun hHeld2 => ?_)
                clear hK K2 hHeld hb hbq9
                have hHeld := hHeld2; clear hHeld2
                try simp only [Act.put, List.setIfInBounds_toArray, List.set_cons_zero, List.set_cons_succ]
                refine wpAnyH_take (i := 13) (oi := { dst := some 77, op := Go.Op.pick (Go.Operand.tmp 72) (Go.Operand.const (Go.Value.bool true)) (Go.Operand.tmp 76), type := 4, pos := "law.go:94", after := #[{ on := 8, ground := Go.Ground.data }, { on := 12, ground := Go.Ground.data }], guard := none }) (v := ?_) rfl (by kernel_rfl) (by kernel_rfl) (by kernel_rfl) (fun _ _ _ h => h) (Or.inl ⟨by rfl, ?_⟩) (by assumption) ?_
                rotate_left
                · (intro w hSw; (try dsimp only at hSw); go_simp); try with_reducible rfl
                try simp only [Act.put, List.setIfInBounds_toArray, List.set_cons_zero, List.set_cons_succ]
                refine wpAnyH_take (i := 14) (oi := { dst := some 78, op := Go.Op.binOp Go.BinOp.eql 4 (Go.Operand.tmp 67) (Go.Operand.tmp 77) 4, type := 4, pos := "law.go:94", after := #[{ on := 3, ground := Go.Ground.data }, { on := 13, ground := Go.Ground.data }], guard := none }) (v := ?_) rfl (by kernel_rfl) (by kernel_rfl) (by kernel_rfl) (fun _ _ _ h => h) (Or.inl ⟨by rfl, ?_⟩) (by assumption) ?_
                rotate_left
                · (intro w hSw; (try dsimp only at hSw); go_simp); try with_reducible rfl
                try simp only [Act.put, List.setIfInBounds_toArray, List.set_cons_zero, List.set_cons_succ]
                refine wpAnyH_take (i := 15) (oi := { dst := some 15, op := Go.Op.assign (Go.Operand.tmp 78), type := 4, pos := "law.go:94", after := #[{ on := 14, ground := Go.Ground.data }, { on := 12, ground := Go.Ground.chain }, { on := 0, ground := Go.Ground.phase }, { on := 1, ground := Go.Ground.phase }, { on := 2, ground := Go.Ground.phase }, { on := 3, ground := Go.Ground.phase }, { on := 4, ground := Go.Ground.phase }, { on := 5, ground := Go.Ground.phase }, { on := 6, ground := Go.Ground.phase }, { on := 7, ground := Go.Ground.phase }, { on := 8, ground := Go.Ground.phase }, { on := 9, ground := Go.Ground.phase }, { on := 10, ground := Go.Ground.phase }, { on := 11, ground := Go.Ground.phase }, { on := 12, ground := Go.Ground.phase }, { on := 13, ground := Go.Ground.phase }, { on := 14, ground := Go.Ground.phase }], guard := none }) (v := ?_) rfl (by kernel_rfl) (by kernel_rfl) (by kernel_rfl) (fun _ _ _ h => h) (Or.inl ⟨by rfl, ?_⟩) (by assumption) ?_
                rotate_left
                · (intro w hSw; (try dsimp only at hSw); go_simp); try with_reducible rfl
                try simp only [Act.put, List.setIfInBounds_toArray, List.set_cons_zero, List.set_cons_succ]
                refine wpAnyH_done (by kernel_rfl) ?_ _
                go_wp2_with fail
                go_meet
                exact ⟨rfl, Lib.hid (show Tp11 g gq gd p q d w6 _ from hHeld)⟩
            obtain ⟨rfl, E9⟩ := hcut
            clear E8 G3 G4 G5
            have eb : (b1 == b1) = true := by simp
            go_upto_region 9 with fail
            obtain ⟨x0, x1, x2, y0, y1, y2, z0, z1, z2, l0, l1, l2, _⟩ := E9.out
            refine wp_region_held_drew (S := (fun w' => w'.cell? ⟨g, 0, none⟩ = some (.int .i64 p.x) ∧ w'.cell? ⟨g, 1, none⟩ = some (.int .i64 p.y) ∧ w'.cell? ⟨g, 2, none⟩ = some (.int .i64 p.z) ∧ w'.cell? ⟨gq, 0, none⟩ = some (.int .i64 q.x) ∧ w'.cell? ⟨gq, 1, none⟩ = some (.int .i64 q.y) ∧ w'.cell? ⟨gq, 2, none⟩ = some (.int .i64 q.z) ∧ w'.cell? ⟨gd, 0, none⟩ = some (.int .i64 d.x) ∧ w'.cell? ⟨gd, 1, none⟩ = some (.int .i64 d.y) ∧ w'.cell? ⟨gd, 2, none⟩ = some (.int .i64 d.z) ∧ g < w'.heap.size ∧ gq < w'.heap.size ∧ gd < w'.heap.size ∧ Hid (Below w6.heap.size w6 w'))) (by kernel_rfl) ?_ (fun hHeld => ?_)
            · exact Tp11.drewN E9.out 1
            refine wpAnyH_take (i := 0) (oi := { dst := some 79, op := Go.Op.move (Go.Operand.tmp 11), type := 4, pos := "law.go:95", after := #[], guard := none }) (v := ?_) rfl (by kernel_rfl) (by kernel_rfl) (by kernel_rfl) (fun _ _ _ h => h) (Or.inl ⟨by rfl, ?_⟩) (by assumption) ?_
            rotate_left
            · (intro w hSw; (try dsimp only at hSw); go_simp); try with_reducible rfl
            try simp only [Act.put, List.setIfInBounds_toArray, List.set_cons_zero, List.set_cons_succ]
            refine wpAnyH_take (i := 1) (oi := { dst := some 80, op := Go.Op.move (Go.Operand.tmp 79), type := 4, pos := "law.go:95", after := #[{ on := 0, ground := Go.Ground.data }], guard := none }) (v := ?_) rfl (by kernel_rfl) (by kernel_rfl) (by kernel_rfl) (fun _ _ _ h => h) (Or.inl ⟨by rfl, ?_⟩) (by assumption) ?_
            rotate_left
            · (intro w hSw; (try dsimp only at hSw); go_simp); try with_reducible rfl
            try simp only [Act.put, List.setIfInBounds_toArray, List.set_cons_zero, List.set_cons_succ]
            refine wpAnyH_take (i := 2) (oi := { dst := some 81, op := Go.Op.move (Go.Operand.tmp 14), type := 4, pos := "law.go:95", after := #[{ on := 1, ground := Go.Ground.guard }], guard := some (1, true) }) (v := ?_) rfl (by kernel_rfl) (by kernel_rfl) (by kernel_rfl) (fun _ _ _ h => h) (Or.inl ⟨by rfl, ?_⟩) (by assumption) ?_
            rotate_left
            · (intro w hSw; (try dsimp only at hSw); go_simp); try with_reducible rfl
            try simp only [Act.put, List.setIfInBounds_toArray, List.set_cons_zero, List.set_cons_succ]
            refine wpAnyH_take (i := 3) (oi := { dst := some 82, op := Go.Op.pick (Go.Operand.tmp 80) (Go.Operand.tmp 81) (Go.Operand.const (Go.Value.bool false)), type := 4, pos := "law.go:95", after := #[{ on := 1, ground := Go.Ground.data }, { on := 2, ground := Go.Ground.data }], guard := none }) (v := ?_) rfl (by kernel_rfl) (by kernel_rfl) (by kernel_rfl) (fun _ _ _ h => h) (Or.inl ⟨by rfl, ?_⟩) (by assumption) ?_
            rotate_left
            · (intro w hSw; (try dsimp only at hSw); go_simp); try with_reducible rfl
            try simp only [Act.put, List.setIfInBounds_toArray, List.set_cons_zero, List.set_cons_succ]
            refine wpAnyH_take (i := 4) (oi := { dst := some 83, op := Go.Op.move (Go.Operand.tmp 82), type := 4, pos := "law.go:95", after := #[{ on := 3, ground := Go.Ground.data }, { on := 1, ground := Go.Ground.chain }], guard := none }) (v := ?_) rfl (by kernel_rfl) (by kernel_rfl) (by kernel_rfl) (fun _ _ _ h => h) (Or.inl ⟨by rfl, ?_⟩) (by assumption) ?_
            rotate_left
            · (intro w hSw; (try dsimp only at hSw); go_simp); try with_reducible rfl
            try simp only [Act.put, List.setIfInBounds_toArray, List.set_cons_zero, List.set_cons_succ]
            refine wpAnyH_take (i := 5) (oi := { dst := some 84, op := Go.Op.move (Go.Operand.tmp 15), type := 4, pos := "law.go:95", after := #[{ on := 4, ground := Go.Ground.guard }], guard := some (4, true) }) (v := ?_) rfl (by kernel_rfl) (by kernel_rfl) (by kernel_rfl) (fun _ _ _ h => h) (Or.inl ⟨by rfl, ?_⟩) (by assumption) ?_
            rotate_left
            · (intro w hSw; (try dsimp only at hSw); go_simp); try with_reducible rfl
            try simp only [Act.put, List.setIfInBounds_toArray, List.set_cons_zero, List.set_cons_succ]
            refine wpAnyH_take (i := 6) (oi := { dst := some 85, op := Go.Op.pick (Go.Operand.tmp 83) (Go.Operand.tmp 84) (Go.Operand.const (Go.Value.bool false)), type := 4, pos := "law.go:95", after := #[{ on := 4, ground := Go.Ground.data }, { on := 5, ground := Go.Ground.data }], guard := none }) (v := ?_) rfl (by kernel_rfl) (by kernel_rfl) (by kernel_rfl) (fun _ _ _ h => h) (Or.inl ⟨by rfl, ?_⟩) (by assumption) ?_
            rotate_left
            · (intro w hSw; (try dsimp only at hSw); go_simp); try with_reducible rfl
            try simp only [Act.put, List.setIfInBounds_toArray, List.set_cons_zero, List.set_cons_succ]
            refine wpAnyH_take (i := 7) (oi := { dst := some 86, op := Go.Op.move (Go.Operand.tmp 85), type := 4, pos := "law.go:95", after := #[{ on := 6, ground := Go.Ground.data }, { on := 4, ground := Go.Ground.chain }], guard := none }) (v := ?_) rfl (by kernel_rfl) (by kernel_rfl) (by kernel_rfl) (fun _ _ _ h => h) (Or.inl ⟨by rfl, ?_⟩) (by assumption) ?_
            rotate_left
            · (intro w hSw; (try dsimp only at hSw); go_simp); try with_reducible rfl
            try simp only [Act.put, List.setIfInBounds_toArray, List.set_cons_zero, List.set_cons_succ]
            refine wpAnyH_take (i := 8) (oi := { dst := some 87, op := Go.Op.move (Go.Operand.tmp 0), type := 22, pos := "law.go:95", after := #[{ on := 7, ground := Go.Ground.guard }], guard := some (7, true) }) (v := ?_) rfl (by kernel_rfl) (by kernel_rfl) (by kernel_rfl) (fun _ _ _ h => h) (Or.inl ⟨by rfl, ?_⟩) (by assumption) ?_
            rotate_left
            · (intro w hSw; (try dsimp only at hSw); go_simp); try with_reducible rfl
            try simp only [Act.put, List.setIfInBounds_toArray, List.set_cons_zero, List.set_cons_succ]
            refine wpAnyH_take (i := 9) (oi := { dst := some 88, op := Go.Op.load 24 (Go.Operand.tmp 7), type := 24, pos := "law.go:95", after := #[{ on := 7, ground := Go.Ground.guard }], guard := some (7, true) }) (v := ?_) rfl (by kernel_rfl) (by kernel_rfl) (by kernel_rfl) (fun _ _ _ h => h) (Or.inl ⟨by rfl, ?_⟩) (by assumption) ?_
            rotate_left
            · (intro w hSw; (try dsimp only at hSw); go_simp); try with_reducible rfl
            try simp only [Act.put, List.setIfInBounds_toArray, List.set_cons_zero, List.set_cons_succ]
            refine wpAnyH_take (i := 10) (oi := { dst := some 89, op := Go.Op.load 24 (Go.Operand.tmp 8), type := 24, pos := "law.go:95", after := #[{ on := 7, ground := Go.Ground.guard }], guard := some (7, true) }) (v := ?_) rfl (by kernel_rfl) (by kernel_rfl) (by kernel_rfl) (fun _ _ _ h => h) (Or.inl ⟨by rfl, ?_⟩) (by assumption) ?_
            rotate_left
            · (intro w hSw; (try dsimp only at hSw); go_simp); try with_reducible rfl
            try simp only [Act.put, List.setIfInBounds_toArray, List.set_cons_zero, List.set_cons_succ]
            refine wpAnyH_take (i := 12) (oi := { dst := some 91, op := Go.Op.move (Go.Operand.tmp 0), type := 22, pos := "law.go:95", after := #[{ on := 7, ground := Go.Ground.guard }], guard := some (7, true) }) (v := ?_) rfl (by kernel_rfl) (by kernel_rfl) (by kernel_rfl) (fun _ _ _ h => h) (Or.inl ⟨by rfl, ?_⟩) (by assumption) ?_
            rotate_left
            · (intro w hSw; (try dsimp only at hSw); go_simp); try with_reducible rfl
            try simp only [Act.put, List.setIfInBounds_toArray, List.set_cons_zero, List.set_cons_succ]
            refine wpAnyH_take (i := 13) (oi := { dst := some 92, op := Go.Op.load 24 (Go.Operand.tmp 8), type := 24, pos := "law.go:95", after := #[{ on := 7, ground := Go.Ground.guard }], guard := some (7, true) }) (v := ?_) rfl (by kernel_rfl) (by kernel_rfl) (by kernel_rfl) (fun _ _ _ h => h) (Or.inl ⟨by rfl, ?_⟩) (by assumption) ?_
            rotate_left
            · (intro w hSw; (try dsimp only at hSw); go_simp); try with_reducible rfl
            try simp only [Act.put, List.setIfInBounds_toArray, List.set_cons_zero, List.set_cons_succ]
            refine wpAnyH_take (i := 14) (oi := { dst := some 93, op := Go.Op.load 24 (Go.Operand.tmp 7), type := 24, pos := "law.go:95", after := #[{ on := 7, ground := Go.Ground.guard }], guard := some (7, true) }) (v := ?_) rfl (by kernel_rfl) (by kernel_rfl) (by kernel_rfl) (fun _ _ _ h => h) (Or.inl ⟨by rfl, ?_⟩) (by assumption) ?_
            rotate_left
            · (intro w hSw; (try dsimp only at hSw); go_simp); try with_reducible rfl
            try simp only [Act.put, List.setIfInBounds_toArray, List.set_cons_zero, List.set_cons_succ]
            refine wpAnyH_ready (rs := [11]) (by kernel_rfl) (by simp) ?_
            refine (AllReadyH.cons (o := { dst := some 90, op := Go.Op.call { callee := Go.Callee.value (Go.Operand.func 11), args := #[Go.Operand.tmp 87, Go.Operand.tmp 88, Go.Operand.tmp 89], argTypes := #[22, 24, 24] }, type := 4, pos := "law.go:95", after := #[{ on := 8, ground := Go.Ground.data }, { on := 9, ground := Go.Ground.data }, { on := 10, ground := Go.Ground.data }, { on := 7, ground := Go.Ground.chain }, { on := 7, ground := Go.Ground.guard }], guard := some (7, true) }) rfl (fun K0 hK => ?_) AllReadyH.nil)
            have hbq9 := Tp11.bel (g := g) (gq := gq) (gd := gd) (p := p) (q := q) (d := d) (w0 := w6) hHeld
            go_simp
            go_at_call 11
            with_reducible refine Calls.mono (G1.out _ hbq9) ?_
            rintro e w911 ⟨rfl, hb⟩
            try go_wp2_with fail
            refine hK.out _ _ (Tp11.go (g := g) (gq := gq) (gd := gd) (p := p) (q := q) (d := d) (w0 := w6) (by assumption) hb) (fun hHeld2 => ?_)
            clear hK K0 hHeld hb hbq9
            have hHeld := hHeld2; clear hHeld2
            try simp only [Act.put, List.setIfInBounds_toArray, List.set_cons_zero, List.set_cons_succ]
            refine wpAnyH_ready (rs := [15]) (by kernel_rfl) (by simp) ?_
            refine (AllReadyH.cons (o := { dst := some 94, op := Go.Op.call { callee := Go.Callee.value (Go.Operand.func 11), args := #[Go.Operand.tmp 91, Go.Operand.tmp 92, Go.Operand.tmp 93], argTypes := #[22, 24, 24] }, type := 4, pos := "law.go:95", after := #[{ on := 12, ground := Go.Ground.data }, { on := 13, ground := Go.Ground.data }, { on := 14, ground := Go.Ground.data }, { on := 11, ground := Go.Ground.chain }, { on := 7, ground := Go.Ground.guard }], guard := some (7, true) }) rfl (fun K1 hK => ?_) AllReadyH.nil)
            have hbq9 := Tp11.bel (g := g) (gq := gq) (gd := gd) (p := p) (q := q) (d := d) (w0 := w6) hHeld
            go_simp
            go_at_call 11
            with_reducible refine Calls.mono (G6.out _ hbq9) ?_
            rintro e w915 ⟨rfl, hb⟩
            try go_wp2_with fail
            refine hK.out _ _ (Tp11.go (g := g) (gq := gq) (gd := gd) (p := p) (q := q) (d := d) (w0 := w6) (by assumption) hb) (fun hHeld2 => ?_)
            clear hK K1 hHeld hb hbq9
            have hHeld := hHeld2; clear hHeld2
            try simp only [Act.put, List.setIfInBounds_toArray, List.set_cons_zero, List.set_cons_succ]
            refine wpAnyH_take (i := 16) (oi := { dst := some 95, op := Go.Op.binOp Go.BinOp.eql 4 (Go.Operand.tmp 90) (Go.Operand.tmp 94) 4, type := 4, pos := "law.go:95", after := #[{ on := 11, ground := Go.Ground.data }, { on := 15, ground := Go.Ground.data }, { on := 7, ground := Go.Ground.guard }], guard := some (7, true) }) (v := ?_) rfl (by kernel_rfl) (by kernel_rfl) (by kernel_rfl) (fun _ _ _ h => h) (Or.inl ⟨by rfl, ?_⟩) (by assumption) ?_
            rotate_left
            · (intro w hSw; (try dsimp only at hSw); go_simp); try with_reducible rfl
            try simp only [Act.put, List.setIfInBounds_toArray, List.set_cons_zero, List.set_cons_succ]
            refine wpAnyH_take (i := 17) (oi := { dst := some 96, op := Go.Op.pick (Go.Operand.tmp 86) (Go.Operand.tmp 95) (Go.Operand.const (Go.Value.bool false)), type := 4, pos := "law.go:95", after := #[{ on := 7, ground := Go.Ground.data }, { on := 16, ground := Go.Ground.data }], guard := none }) (v := ?_) rfl (by kernel_rfl) (by kernel_rfl) (by kernel_rfl) (fun _ _ _ h => h) (Or.inl ⟨by rfl, ?_⟩) (by assumption) ?_
            rotate_left
            · (intro w hSw; (try dsimp only at hSw); go_simp); try with_reducible rfl
            try simp only [Act.put, List.setIfInBounds_toArray, List.set_cons_zero, List.set_cons_succ]
            refine wpAnyH_take (i := 18) (oi := { dst := some 10, op := Go.Op.assign (Go.Operand.tmp 96), type := 4, pos := "law.go:95", after := #[{ on := 17, ground := Go.Ground.data }, { on := 15, ground := Go.Ground.chain }, { on := 0, ground := Go.Ground.phase }, { on := 1, ground := Go.Ground.phase }, { on := 2, ground := Go.Ground.phase }, { on := 3, ground := Go.Ground.phase }, { on := 4, ground := Go.Ground.phase }, { on := 5, ground := Go.Ground.phase }, { on := 6, ground := Go.Ground.phase }, { on := 7, ground := Go.Ground.phase }, { on := 8, ground := Go.Ground.phase }, { on := 9, ground := Go.Ground.phase }, { on := 10, ground := Go.Ground.phase }, { on := 11, ground := Go.Ground.phase }, { on := 12, ground := Go.Ground.phase }, { on := 13, ground := Go.Ground.phase }, { on := 14, ground := Go.Ground.phase }, { on := 15, ground := Go.Ground.phase }, { on := 16, ground := Go.Ground.phase }, { on := 17, ground := Go.Ground.phase }], guard := none }) (v := ?_) rfl (by kernel_rfl) (by kernel_rfl) (by kernel_rfl) (fun _ _ _ h => h) (Or.inl ⟨by rfl, ?_⟩) (by assumption) ?_
            rotate_left
            · (intro w hSw; (try dsimp only at hSw); go_simp); try with_reducible rfl
            try simp only [Act.put, List.setIfInBounds_toArray, List.set_cons_zero, List.set_cons_succ]
            refine wpAnyH_done (by kernel_rfl) ?_ _
            have E10 := Lib.hid (HEB.out.trans ((Tp11.bel (g := g) (gq := gq) (gd := gd) (p := p) (q := q) (d := d) (w0 := w6) hHeld).mono HEB.out.size))
            clear hHeld
            go_wp2_with fail
            go_ret
            exact ⟨rfl, E10.out⟩
          · rw [hu] at HUN
            clear sa sb hu HSA HSB H1 H2 H3 H4 H5 HBK
            go_enter Try.func5, Try.ntmps5
            go_upto_region 1 with fail
            generalize World.alloc (World.alloc (World.alloc w _) _) _ = W at *
            generalize w.heap.size + 1 + 1 = gd at *
            generalize w.heap.size + 1 = gq at *
            obtain ⟨g, hg⟩ : ∃ g, g = w.heap.size := ⟨_, rfl⟩
            have E0' : Hid (Tp11 g gq gd p q d w W) := by rw [hg]; exact E0
            clear E0
            simp only [← hg]
            clear hg
            go_wp2_with fail
            refine (HSM.out _).mono ?_
            rintro e w1 ⟨rfl, hb⟩
            have E1 := Lib.hid (E0'.out.go hb)
            clear hb E0' HSM
            go_wp2_with fail
            refine (HFA.out _ E1.out.bel).mono ?_
            rintro e w2 ⟨rfl, hb⟩
            have E2 := Lib.hid (E1.out.go hb)
            clear hb E1 HFA
            go_wp2_with fail
            refine (HFB.out _ E2.out.bel).mono ?_
            rintro e w3 ⟨rfl, hb⟩
            have E3 := Lib.hid (E2.out.go hb)
            clear hb E2 HFB
            go_wp2_with fail
            refine (HRA.out _ E3.out.bel).mono ?_
            rintro e w4 ⟨rfl, hb⟩
            have E4 := Lib.hid (E3.out.go hb)
            clear hb E3 HRA
            go_wp2_with fail
            refine (HRB.out _ E4.out.bel).mono ?_
            rintro e w5 ⟨rfl, hb⟩
            have E5 := Lib.hid (E4.out.go hb)
            clear hb E4 HRB
            go_wp2_with fail
            refine (HUN.out _ E5.out.bel).mono ?_
            rintro e w6 ⟨U, cu, rfl, hsu, hb⟩
            have E6 := Lib.hid (E5.out.go hb)
            clear hb E5 HUN hsu
            go_wp2_with fail
            go_ret
            exact ⟨rfl, E6.out.bel⟩
        · rw [solPB_no sb] at HRB
          clear sa sb HSA HSB
          go_enter Try.func5, Try.ntmps5
          go_upto_region 1 with fail
          generalize World.alloc (World.alloc (World.alloc w _) _) _ = W at *
          generalize w.heap.size + 1 + 1 = gd at *
          generalize w.heap.size + 1 = gq at *
          obtain ⟨g, hg⟩ : ∃ g, g = w.heap.size := ⟨_, rfl⟩
          have E0' : Hid (Tp11 g gq gd p q d w W) := by rw [hg]; exact E0
          clear E0
          simp only [← hg]
          clear hg
          go_wp2_with fail
          refine (HSM.out _).mono ?_
          rintro e w1 ⟨rfl, hb⟩
          have E1 := Lib.hid (E0'.out.go hb)
          clear hb E0' HSM
          go_wp2_with fail
          refine (HFA.out _ E1.out.bel).mono ?_
          rintro e w2 ⟨rfl, hb⟩
          have E2 := Lib.hid (E1.out.go hb)
          clear hb E1 HFA
          go_wp2_with fail
          refine (HFB.out _ E2.out.bel).mono ?_
          rintro e w3 ⟨rfl, hb⟩
          have E3 := Lib.hid (E2.out.go hb)
          clear hb E2 HFB
          go_wp2_with fail
          refine (HRA.out _ E3.out.bel).mono ?_
          rintro e w4 ⟨rfl, hb⟩
          have E4 := Lib.hid (E3.out.go hb)
          clear hb E3 HRA
          go_wp2_with fail
          refine (HRB.out _ E4.out.bel).mono ?_
          rintro e w5 ⟨rfl, hb⟩
          have E5 := Lib.hid (E4.out.go hb)
          clear hb E4 HRB
          go_wp2_with fail
          go_ret
          exact ⟨rfl, E5.out.bel⟩
      · rw [solPB_no sa] at HRA
        clear sa HSA HSB HRB
        go_enter Try.func5, Try.ntmps5
        go_upto_region 1 with fail
        generalize World.alloc (World.alloc (World.alloc w _) _) _ = W at *
        generalize w.heap.size + 1 + 1 = gd at *
        generalize w.heap.size + 1 = gq at *
        obtain ⟨g, hg⟩ : ∃ g, g = w.heap.size := ⟨_, rfl⟩
        have E0' : Hid (Tp11 g gq gd p q d w W) := by rw [hg]; exact E0
        clear E0
        simp only [← hg]
        clear hg
        go_wp2_with fail
        refine (HSM.out _).mono ?_
        rintro e w1 ⟨rfl, hb⟩
        have E1 := Lib.hid (E0'.out.go hb)
        clear hb E0' HSM
        go_wp2_with fail
        refine (HFA.out _ E1.out.bel).mono ?_
        rintro e w2 ⟨rfl, hb⟩
        have E2 := Lib.hid (E1.out.go hb)
        clear hb E1 HFA
        go_wp2_with fail
        refine (HFB.out _ E2.out.bel).mono ?_
        rintro e w3 ⟨rfl, hb⟩
        have E3 := Lib.hid (E2.out.go hb)
        clear hb E2 HFB
        go_wp2_with fail
        refine (HRA.out _ E3.out.bel).mono ?_
        rintro e w4 ⟨rfl, hb⟩
        have E4 := Lib.hid (E3.out.go hb)
        clear hb E3 HRA
        go_wp2_with fail
        go_ret
        exact ⟨rfl, E4.out.bel⟩
    · rw [few11_no fb] at HFB
      clear hla hca hsa hlb hcb hsb fa fb
      go_enter Try.func5, Try.ntmps5
      go_upto_region 1 with fail
      generalize World.alloc (World.alloc (World.alloc w _) _) _ = W at *
      generalize w.heap.size + 1 + 1 = gd at *
      generalize w.heap.size + 1 = gq at *
      obtain ⟨g, hg⟩ : ∃ g, g = w.heap.size := ⟨_, rfl⟩
      have E0' : Hid (Tp11 g gq gd p q d w W) := by rw [hg]; exact E0
      clear E0
      simp only [← hg]
      clear hg
      go_wp2_with fail
      refine (HSM.out _).mono ?_
      rintro e w1 ⟨rfl, hb⟩
      have E1 := Lib.hid (E0'.out.go hb)
      clear hb E0' HSM
      go_wp2_with fail
      refine (HFA.out _ E1.out.bel).mono ?_
      rintro e w2 ⟨rfl, hb⟩
      have E2 := Lib.hid (E1.out.go hb)
      clear hb E1 HFA
      go_wp2_with fail
      refine (HFB.out _ E2.out.bel).mono ?_
      rintro e w3 ⟨rfl, hb⟩
      have E3 := Lib.hid (E2.out.go hb)
      clear hb E2 HFB
      go_wp2_with fail
      go_ret
      exact ⟨rfl, E3.out.bel⟩
  · rw [few11_no fa] at HFA
    clear hla hca hsa hlb hcb hsb fa HFB
    go_enter Try.func5, Try.ntmps5
    go_upto_region 1 with fail
    generalize World.alloc (World.alloc (World.alloc w _) _) _ = W at *
    generalize w.heap.size + 1 + 1 = gd at *
    generalize w.heap.size + 1 = gq at *
    obtain ⟨g, hg⟩ : ∃ g, g = w.heap.size := ⟨_, rfl⟩
    have E0' : Hid (Tp11 g gq gd p q d w W) := by rw [hg]; exact E0
    clear E0
    simp only [← hg]
    clear hg
    go_wp2_with fail
    refine (HSM.out _).mono ?_
    rintro e w1 ⟨rfl, hb⟩
    have E1 := Lib.hid (E0'.out.go hb)
    clear hb E0' HSM
    go_wp2_with fail
    refine (HFA.out _ E1.out.bel).mono ?_
    rintro e w2 ⟨rfl, hb⟩
    have E2 := Lib.hid (E1.out.go hb)
    clear hb E1 HFA
    go_wp2_with fail
    go_ret
    exact ⟨rfl, E2.out.bel⟩
end Go.Proofs.Ytkjblmfmaenllaa
