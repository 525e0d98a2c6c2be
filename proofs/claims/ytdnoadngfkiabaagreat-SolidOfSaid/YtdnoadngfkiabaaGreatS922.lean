/-
  Contracts of the program's layer 9, 5: join.
  Contracts of the reference of layer 9, 2: end, SameBoxes, RightBox.
  Contracts of the reference of layer 9, 6: insert.
  Contracts of the reference of layer 9, 7: add.
-/
import Derived.Test.YtdnoadngfkiabaaGreatS921
import Derived.Deep.AppendLies
import Derived.Test.YtdnoadngfkiabaaGreatS914
import Derived.Test.YtdnoadngfkiabaaGreatS920
import Derived.Test.YtdnoadngfkiabaaGreatS902
import Derived.Laws.AppendOwnNone
import Derived.Test.YtdnoadngfkiabaaGreatS901
set_option linter.unusedVariables false
set_option maxRecDepth 100000
namespace Go.Proofs.YtdnoadngfkiabaaGreat
open Go.RowKit

theorem own_dn {w : World} {B e size n : Nat} {v : Value} {xs : List Value} (h : w.ownsRow B e size v n xs) (q : Nat) (o : Obj) : ((w.drewN q).alloc o).ownsRow B e size v n xs := (own_go h (below_drewN (Below.refl _ _) q)).alloc o
theorem news3 (W : World) (k : Nat) (hk : k = W.heap.size) (a b c : Value) (t : TypeId) : ∀ j u, [a, b, c][j]? = some u → (W.alloc (.cells #[a, b, c] t)).cell? ((⟨k, 0, none⟩ : Addr).add j) = some u := by
  subst hk
  exact World.news_of_block (cs := #[a, b, c]) (t := t) (fr := (0, 0)) (heap_alloc_new W _)
def JoinIs (L : List SlV) (t : SlV) (w0 w : World) (e : Ending) (w' : World) : Prop := ∃ v' L', e = .returned v' ∧ svS L' = joinS (svS L) t.s ∧ SW v' L' w0 w'
/-- the last slab of the row, the next one at a block. -/
def Jy (p g o : Nat) (u v : SlV) (w0 w : World) : Prop := w.cell? ⟨p, 0, none⟩ = some (.int .i64 u.s.z0) ∧ w.cell? ⟨p, 1, none⟩ = some (.int .i64 u.s.z1) ∧ w.cell? ⟨p, 2, none⟩ = some (.slice u.A u.s.ar.length u.c) ∧ w.cell? ⟨g, o, none⟩ = some (.int .i64 v.s.z0) ∧ w.cell? ⟨g, o + 1, none⟩ = some (.int .i64 v.s.z1) ∧ w.cell? ⟨g, o + 2, none⟩ = some (.slice v.A v.s.ar.length v.c) ∧ p < w.heap.size ∧ g < w.heap.size ∧ Hid (Below w0.heap.size w0 w)
theorem Jy.go {p g o : Nat} {u v : SlV} {w0 w w' : World} (h : Jy p g o u v w0 w) (hb : Below w.heap.size w w') : Jy p g o u v w0 w' := by
  obtain ⟨h0, h1, h2, h3, h4, h5, h6, h7, h8⟩ := h
  have cp := fun i => hb.cell (p := ⟨p, i, none⟩) h6
  have cb := fun i => hb.cell (p := ⟨g, i, none⟩) h7
  exact ⟨(cp _).trans h0, (cp _).trans h1, (cp _).trans h2, (cb _).trans h3, (cb _).trans h4, (cb _).trans h5, Nat.lt_of_lt_of_le h6 hb.size, Nat.lt_of_lt_of_le h7 hb.size, Lib.hid (h8.out.trans (hb.mono h8.out.size))⟩
theorem Jy.drewN {p g o : Nat} {u v : SlV} {w0 w : World} (h : Jy p g o u v w0 w) (n : Nat) : Jy p g o u v w0 (w.drewN n) := h.go (below_drewN (Below.refl _ _) n)
theorem SlAt.froz {w : World} {p : Nat} {u : Sl} {A : Option Addr} {c : Nat} (h : SlAt w p u A c) (i : Nat) : w.frozen? ⟨p, i, none⟩ = false := Lib.frozen_of_heap h i
set_option maxHeartbeats 40000000 in
theorem bjoin_any (L : List SlV) (v : Value) (t : SlV) (w0 w : World) (h : SW v L w0 w) (ht : w.ownsRow w0.heap.size 33 4 (.slice t.A t.s.ar.length t.c) t.s.ar.length (rcells t.s.ar)) (hL : L.length ≤ 80) (hla : ∀ u ∈ L, u.s.ar.length ≤ 200) (hta : t.s.ar.length ≤ 200) :
    Calls Tryz.prog 66 #[v, .agg #[.int .i64 t.s.z0, .int .i64 t.s.z1, .slice t.A t.s.ar.length t.c]] w (JoinIs L t w0 w) := by
  have HSA := Lib.hid (SlAt.new w t.s t.A t.c t.s.ar.length rfl)
  have hal : Below w.heap.size w (w.alloc (.cells #[.int .i64 t.s.z0, .int .i64 t.s.z1, .slice t.A t.s.ar.length t.c] 40)) := (Below.refl _ _).alloc (Nat.le_refl _) _
  have HAL := Lib.hid hal
  have HW := Lib.hid (h.go hal)
  have HT := Lib.hid (own_go ht hal)
  have hbs := h.bel.size
  obtain ⟨i0, hi9, hz0, hz1, hz2⟩ := info_parts infoSlab
  by_cases h0 : t.s.ar = []
  · have e0 : t.s.ar.length = 0 := by rw [h0]; rfl
    have FIN : Hid (JoinIs L t w0 w (.returned v) (w.alloc (.cells #[.int .i64 t.s.z0, .int .i64 t.s.z1, .slice t.A t.s.ar.length t.c] 40))) := Lib.hid ⟨v, L, rfl, (join_none h0).symm, HW.out⟩
    rw [e0] at FIN ⊢
    clear HSA hal HAL HW HT h ht hi9 hz0 hz1 hz2 h0 hla hta e0
    go_enter Tryz.func66, Tryz.ntmps66
    go_wp2_with fail
    go_ret
    exact FIN.out
  · have z1 : ((t.s.ar.length : Int) == 0) = false := by simp; exact h0
    have H0 := Lib.hid h0
    clear hal
    rcases List.eq_nil_or_concat L with hL0 | ⟨G, p, hGp⟩
    · subst hL0
      obtain ⟨A, cap, rfl, _, _, _⟩ := h.cells
      have HOWN := Lib.hid HW.out.own
      clear h ht hla
      have FIN : Hid (∀ w1 v' w', Below (w.alloc (.cells #[.int .i64 t.s.z0, .int .i64 t.s.z1, .slice t.A t.s.ar.length t.c] 40)).heap.size (w.alloc (.cells #[.int .i64 t.s.z0, .int .i64 t.s.z1, .slice t.A t.s.ar.length t.c] 40)) w1 → w'.ownsRow w0.heap.size 40 3 v' (0 + 1) (svcells [] ++ svc t) → w1.grownBy w' (Value.ownBlock (.slice A 0 cap)) → JoinIs [] t w0 w (.returned v') w') := Lib.hid (fun w1 v' w' hb ho hg => ⟨v', [] ++ [t], rfl, (by simp only [svS, List.nil_append, List.map_cons, List.map_nil]; exact (join_first H0.out).symm), (HW.out.go hb).app (own_go HT.out hb) ho hg⟩)
      have hsa := HSA.out
      have y0 := fun q => (below_drewN (Below.refl (w.alloc (.cells #[.int .i64 t.s.z0, .int .i64 t.s.z1, .slice t.A t.s.ar.length t.c] 40)).heap.size (w.alloc (.cells #[.int .i64 t.s.z0, .int .i64 t.s.z1, .slice t.A t.s.ar.length t.c] 40))) q).cell (p := ⟨w.heap.size, 0, none⟩) hsa.lt |>.trans hsa.c0
      have y1 := fun q => (below_drewN (Below.refl (w.alloc (.cells #[.int .i64 t.s.z0, .int .i64 t.s.z1, .slice t.A t.s.ar.length t.c] 40)).heap.size (w.alloc (.cells #[.int .i64 t.s.z0, .int .i64 t.s.z1, .slice t.A t.s.ar.length t.c] 40))) q).cell (p := ⟨w.heap.size, 1, none⟩) hsa.lt |>.trans hsa.c1
      have y2 := fun q => (below_drewN (Below.refl (w.alloc (.cells #[.int .i64 t.s.z0, .int .i64 t.s.z1, .slice t.A t.s.ar.length t.c] 40)).heap.size (w.alloc (.cells #[.int .i64 t.s.z0, .int .i64 t.s.z1, .slice t.A t.s.ar.length t.c] 40))) q).cell (p := ⟨w.heap.size, 2, none⟩) hsa.lt |>.trans hsa.c2
      have yl := hsa.lt
      clear hsa
      show Calls Tryz.prog 66 #[.slice A 0 cap, .agg #[.int .i64 t.s.z0, .int .i64 t.s.z1, .slice t.A t.s.ar.length t.c]] w (JoinIs [] t w0 w)
      go_enter Tryz.func66, Tryz.ntmps66
      go_wp2_with fail
      go_quiet (fail)
      go_wp2_with (at_builtin; refine wpList_append_own _ rfl _ _ 22 rfl w0.heap.size 40 i0 (.agg #[.int .i64 0, .int .i64 0, .slice none 0 0]) 3 40 Tryz.underlying22 hi9 hz0 hz1 hz2 rfl (by decide) _ _ _ rfl (own_dn HOWN.out _ _) ⟨w.heap.size + 1, 0, none⟩ 1 1 [.int .i64 t.s.z0, .int .i64 t.s.z1, .slice t.A t.s.ar.length t.c] rfl rfl ?c1 ?c2 ?c3 ?c4 ?c5 ?_)
      case c1 => exact news3 _ _ (by simp) _ _ _ _
      case c2 => intro u hu; simp only [List.mem_cons, List.not_mem_nil, or_false] at hu; rcases hu with rfl | rfl | rfl <;> rfl
      case c3 => unfold maxLen; omega
      case c4 => omega
      case c5 => simp; omega
      intro v' w4 hown' hgr _
      have FX := Lib.hid (FIN.out _ v' w4 ((below_drewN (Below.refl _ _) _).alloc (by simp) _) hown' hgr)
      clear hown' hgr
      go_wp2_with fail
      go_ret
      exact FX.out
    · rw [List.concat_eq_append] at hGp
      subst hGp
      obtain ⟨A, cap, rfl, _, _, hA⟩ := HW.out.cells
      obtain ⟨g, rfl, hg0, hg1, hgc⟩ := hA (by simp)
      obtain ⟨q0, q1, q2⟩ := hgc G.length (by simp)
      have ep : (G ++ [p])[G.length]'(by simp) = p := by simp
      rw [ep] at q0 q1 q2
      have hsa := HSA.out
      have E0 : Hid (Jy w.heap.size g (G.length * 3) t p (w.alloc (.cells #[.int .i64 t.s.z0, .int .i64 t.s.z1, .slice t.A t.s.ar.length t.c] 40)) (w.alloc (.cells #[.int .i64 t.s.z0, .int .i64 t.s.z1, .slice t.A t.s.ar.length t.c] 40))) := Lib.hid ⟨hsa.c0, hsa.c1, hsa.c2, q0, q1, q2, hsa.lt, hg1, Lib.hid (Below.refl _ _)⟩
      have HLEN : Hid ((G ++ [p]).length = G.length + 1) := Lib.hid (by simp)
      have hGl : G.length ≤ 79 := by have := HLEN.out; omega
      have HPR := Lib.hid (own_rin (HW.out.ar p (by simp)) (by have := hla p (by simp); omega))
      have HTR := Lib.hid (own_rin HT.out (by omega))
      have HPL := Lib.hid (hla p (by simp))
      have HTL := Lib.hid hta
      have r1 : IntKind.i64.wrap (G.length : Int) = (G.length : Int) := IntWalk.i64_in _ (by omega)
      have m0 : (0 : Int) ≤ (G.length : Int) := by omega
      have m1 : (G.length : Int) < (G.length : Int) + 1 := by omega
      have HMN : Hid (∀ u ∈ G ++ [p], True) := Lib.hid (fun _ _ => trivial)
      rw [HLEN.out]
      clear h ht hla hta hgc ep hsa hL q0 q1 q2
      by_cases ce : p.s.z1 = t.s.z0 ∧ p.s.ar = t.s.ar
      · have dc : decide (p.s.z1 = t.s.z0 ∧ p.s.ar = t.s.ar) = true := decide_eq_true ce
        have HCO : Hid (∀ w', Jy w.heap.size g (G.length * 3) t p (w.alloc (.cells #[.int .i64 t.s.z0, .int .i64 t.s.z1, .slice t.A t.s.ar.length t.c] 40)) w' → Calls Tryz.prog 56 #[.agg #[.int .i64 p.s.z0, .int .i64 p.s.z1, .slice p.A p.s.ar.length p.c], .agg #[.int .i64 t.s.z0, .int .i64 t.s.z1, .slice t.A t.s.ar.length t.c]] w' (BlIs true w')) := Lib.hid (fun w' hj => by
          have hb := hj.2.2.2.2.2.2.2.2.out
          have := bcont_any p.s.z0 p.s.z1 t.s.z0 t.s.z1 p.A p.c t.A t.c p.s.ar t.s.ar w' (HPR.out.below hb).row (HTR.out.below hb).row (by have := HPL.out; omega) (by have := HTL.out; omega)
          rw [dc] at this; exact this)
        have FIN : Hid (∀ w', Below (w.alloc (.cells #[.int .i64 t.s.z0, .int .i64 t.s.z1, .slice t.A t.s.ar.length t.c] 40)).heap.size (w.alloc (.cells #[.int .i64 t.s.z0, .int .i64 t.s.z1, .slice t.A t.s.ar.length t.c] 40)) w' → JoinIs (G ++ [p]) t w0 w (.returned (.slice (some ⟨g, 0, none⟩) (G.length + 1) cap)) (w'.setCell ⟨g, G.length * 3 + 1, none⟩ (.int .i64 t.s.z1))) := Lib.hid (fun w' hb => ⟨_, G ++ [⟨⟨p.s.z0, t.s.z1, p.s.ar⟩, p.A, p.c⟩], rfl, (by
          rw [svS_append, svS_append]
          exact (join_wide H0.out ce.1 ce.2).symm), (by
          have hw := HW.out.go hb
          rw [HLEN.out] at hw
          exact hw.setz rfl _)⟩)
        have HFZ : Hid (∀ w', Below (w.alloc (.cells #[.int .i64 t.s.z0, .int .i64 t.s.z1, .slice t.A t.s.ar.length t.c] 40)).heap.size (w.alloc (.cells #[.int .i64 t.s.z0, .int .i64 t.s.z1, .slice t.A t.s.ar.length t.c] 40)) w' → w'.frozen? ⟨g, G.length * 3 + 1, none⟩ = false) := Lib.hid (fun w' hb => (HW.out.go hb).own.frozenAt _)
        clear dc ce HPR HTR HPL HTL HT HW HMN
        obtain ⟨m, hm⟩ : ∃ m, m = G.length := ⟨_, rfl⟩
        rw [← hm] at E0 HCO FIN HFZ r1 m0 m1 hGl ⊢
        clear hm HLEN
        go_enter Tryz.func66, Tryz.ntmps66
        go_wp2_with fail
        go_region_held3 (fun w' => w'.cell? ⟨w.heap.size, 0, none⟩ = some (.int .i64 t.s.z0) ∧ w'.cell? ⟨w.heap.size, 1, none⟩ = some (.int .i64 t.s.z1) ∧ w'.cell? ⟨w.heap.size, 2, none⟩ = some (.slice t.A t.s.ar.length t.c) ∧ w'.cell? ⟨g, m * 3, none⟩ = some (.int .i64 p.s.z0) ∧ w'.cell? ⟨g, m * 3 + 1, none⟩ = some (.int .i64 p.s.z1) ∧ w'.cell? ⟨g, m * 3 + 2, none⟩ = some (.slice p.A p.s.ar.length p.c) ∧ w.heap.size < w'.heap.size ∧ g < w'.heap.size ∧ Hid (Below (w.alloc (.cells #[.int .i64 t.s.z0, .int .i64 t.s.z1, .slice t.A t.s.ar.length t.c] 40)).heap.size (w.alloc (.cells #[.int .i64 t.s.z0, .int .i64 t.s.z1, .slice t.A t.s.ar.length t.c] 40)) w'))
          (first | exact E0.out | exact Jy.drewN E0.out 1 | exact Jy.go ‹_› ‹_› | assumption)
          (first | (go_at_call 56; refine (HCO.out _ ?_).mono ?_; (first | assumption | exact Jy.drewN E0.out 1); rintro e w' ⟨rfl, hb⟩) | fail)
        have E2 : Jy w.heap.size g (m * 3) t p (w.alloc (.cells #[.int .i64 t.s.z0, .int .i64 t.s.z1, .slice t.A t.s.ar.length t.c] 40)) w' := by assumption
        have FX := Lib.hid (FIN.out _ E2.2.2.2.2.2.2.2.2.out)
        have f0 := HFZ.out _ E2.2.2.2.2.2.2.2.2.out
        have y1 := E2.2.1; have q1 := E2.2.2.2.2.1; have yl := E2.2.2.2.2.2.2.1; have ql := E2.2.2.2.2.2.2.2.1
        clear E0 E2 FIN HFZ HCO
        go_wp2_with fail
        go_ret
        exact FX.out
      · have dc : decide (p.s.z1 = t.s.z0 ∧ p.s.ar = t.s.ar) = false := decide_eq_false ce
        have HCO : Hid (∀ w', Jy w.heap.size g (G.length * 3) t p (w.alloc (.cells #[.int .i64 t.s.z0, .int .i64 t.s.z1, .slice t.A t.s.ar.length t.c] 40)) w' → Calls Tryz.prog 56 #[.agg #[.int .i64 p.s.z0, .int .i64 p.s.z1, .slice p.A p.s.ar.length p.c], .agg #[.int .i64 t.s.z0, .int .i64 t.s.z1, .slice t.A t.s.ar.length t.c]] w' (BlIs false w')) := Lib.hid (fun w' hj => by
          have hb := hj.2.2.2.2.2.2.2.2.out
          have := bcont_any p.s.z0 p.s.z1 t.s.z0 t.s.z1 p.A p.c t.A t.c p.s.ar t.s.ar w' (HPR.out.below hb).row (HTR.out.below hb).row (by have := HPL.out; omega) (by have := HTL.out; omega)
          rw [dc] at this; exact this)
        have FIN : Hid (∀ w1 v' w', Below (w.alloc (.cells #[.int .i64 t.s.z0, .int .i64 t.s.z1, .slice t.A t.s.ar.length t.c] 40)).heap.size (w.alloc (.cells #[.int .i64 t.s.z0, .int .i64 t.s.z1, .slice t.A t.s.ar.length t.c] 40)) w1 → w'.ownsRow w0.heap.size 40 3 v' (G.length + 1 + 1) (svcells (G ++ [p]) ++ svc t) → w1.grownBy w' (Value.ownBlock (.slice (some ⟨g, 0, none⟩) (G.length + 1) cap)) → JoinIs (G ++ [p]) t w0 w (.returned v') w') := Lib.hid (fun w1 v' w' hb ho hg => ⟨v', (G ++ [p]) ++ [t], rfl, (by
          rw [svS_append, svS_append]
          exact (join_new H0.out ce).symm), (HW.out.go hb).app (own_go HT.out hb) (by rw [HLEN.out]; exact ho) (by rw [HLEN.out] ; exact hg)⟩)
        have HOWN : Hid (∀ w', Below (w.alloc (.cells #[.int .i64 t.s.z0, .int .i64 t.s.z1, .slice t.A t.s.ar.length t.c] 40)).heap.size (w.alloc (.cells #[.int .i64 t.s.z0, .int .i64 t.s.z1, .slice t.A t.s.ar.length t.c] 40)) w' → w'.ownsRow w0.heap.size 40 3 (.slice (some ⟨g, 0, none⟩) (G.length + 1) cap) (G.length + 1) (svcells (G ++ [p]))) := Lib.hid (fun w' hb => by
          have := (HW.out.go hb).own
          rw [HLEN.out] at this; exact this)
        clear dc ce HPR HTR HPL HTL HT HW HMN
        obtain ⟨C, hC⟩ : ∃ C, C = svcells (G ++ [p]) := ⟨_, rfl⟩
        rw [← hC] at FIN HOWN
        clear hC
        obtain ⟨m, hm⟩ : ∃ m, m = G.length := ⟨_, rfl⟩
        rw [← hm] at E0 HCO FIN HOWN r1 m0 m1 hGl ⊢
        clear hm HLEN
        go_enter Tryz.func66, Tryz.ntmps66
        go_wp2_with fail
        go_region_held3 (fun w' => w'.cell? ⟨w.heap.size, 0, none⟩ = some (.int .i64 t.s.z0) ∧ w'.cell? ⟨w.heap.size, 1, none⟩ = some (.int .i64 t.s.z1) ∧ w'.cell? ⟨w.heap.size, 2, none⟩ = some (.slice t.A t.s.ar.length t.c) ∧ w'.cell? ⟨g, m * 3, none⟩ = some (.int .i64 p.s.z0) ∧ w'.cell? ⟨g, m * 3 + 1, none⟩ = some (.int .i64 p.s.z1) ∧ w'.cell? ⟨g, m * 3 + 2, none⟩ = some (.slice p.A p.s.ar.length p.c) ∧ w.heap.size < w'.heap.size ∧ g < w'.heap.size ∧ Hid (Below (w.alloc (.cells #[.int .i64 t.s.z0, .int .i64 t.s.z1, .slice t.A t.s.ar.length t.c] 40)).heap.size (w.alloc (.cells #[.int .i64 t.s.z0, .int .i64 t.s.z1, .slice t.A t.s.ar.length t.c] 40)) w'))
          (first | exact E0.out | exact Jy.drewN E0.out 1 | exact Jy.go ‹_› ‹_› | assumption)
          (first | (go_at_call 56; refine (HCO.out _ ?_).mono ?_; (first | assumption | exact Jy.drewN E0.out 1); rintro e w' ⟨rfl, hb⟩) | fail)
        have E2 : Jy w.heap.size g (m * 3) t p (w.alloc (.cells #[.int .i64 t.s.z0, .int .i64 t.s.z1, .slice t.A t.s.ar.length t.c] 40)) w' := by assumption
        have HBX := E2.2.2.2.2.2.2.2.2
        have HOX := Lib.hid (HOWN.out _ HBX.out)
        have y0 := E2.1; have y1 := E2.2.1; have y2 := E2.2.2.1; have yl := E2.2.2.2.2.2.2.1
        have hbz := HBX.out.size
        have hbz2 : w0.heap.size ≤ w'.heap.size := by simp at hbz; omega
        clear E0 E2 HCO HOWN hbz
        go_wp2_with (at_builtin; refine wpList_append_own _ rfl _ _ 22 rfl w0.heap.size 40 i0 (.agg #[.int .i64 0, .int .i64 0, .slice none 0 0]) 3 40 Tryz.underlying22 hi9 hz0 hz1 hz2 rfl (by decide) _ _ _ rfl (HOX.out.alloc _) ⟨w'.heap.size, 0, none⟩ 1 1 [.int .i64 t.s.z0, .int .i64 t.s.z1, .slice t.A t.s.ar.length t.c] rfl rfl ?d1 ?d2 ?d3 ?d4 ?d5 ?_)
        case d1 =>
          intro j u hj
          match j, hj with
          | 0, hj => simp at hj; subst hj; simp [Addr.add]
          | 1, hj => simp at hj; subst hj; simp [Addr.add]
          | 2, hj => simp at hj; subst hj; simp [Addr.add]
        case d2 => intro u hu; simp only [List.mem_cons, List.not_mem_nil, or_false] at hu; rcases hu with rfl | rfl | rfl <;> rfl
        case d3 => unfold maxLen; omega
        case d4 => omega
        case d5 => simp; omega
        intro v' w4 hown' hgr _
        have FX := Lib.hid (FIN.out _ v' w4 (HBX.out.alloc HBX.out.size _) hown' hgr)
        clear hown' hgr FIN
        go_wp2_with fail
        go_ret
        exact FX.out
end Go.Proofs.YtdnoadngfkiabaaGreat
namespace Go.Proofs.YtdnoadngfkiabaaGreat
open Go.RowKit

/-- end: the slabs, if they are not too many. -/
def EndIs (x : List Sl × Int) (A : Option Addr) (cap : Nat) (S : List Sl) (w : World) (e : Ending) (w' : World) : Prop := (x.2 = 0 ∧ x.1 = S ∧ e = .returned (.tuple #[.slice A S.length cap, .int .i64 0]) ∨ x.2 = 6 ∧ x.1 = [] ∧ e = .returned (.tuple #[.slice none 0 0, .int .i64 6])) ∧ Below w.heap.size w w'
set_option maxHeartbeats 16000000 in
theorem dend_any (A : Option Addr) (cap : Nat) (S : List Sl) (w : World) (h : SIn w A cap S) : Calls Tryz.prog 43 #[.slice A S.length cap] w (EndIs (capS S) A cap S w) := by
  have hlen := h.len
  have H1 := Lib.hid h.row; clear h
  have HB0 := Lib.hid (Below.refl w.heap.size w)
  go_enter Tryz.func43, Tryz.ntmps43
  go_wp2_with fail
  go_loopw [4] (fun i wr => ∃ (k : Nat), k ≤ S.length ∧ i = .int .i64 k ∧ Hid (Below w.heap.size w wr) ∧ Hid (∀ j (h : j < S.length), j < k → S[j].ar.length ≤ 200)) (fun i _ => S.length - (intOf i).toNat)
  case atStart => exact ⟨0, Nat.zero_le _, rfl, HB0, Lib.hid (fun j _ h => absurd h (Nat.not_lt_zero _))⟩
  case round =>
    clear HB0
    obtain ⟨k, hk, rfl, HB, HT⟩ := hrel
    by_cases hlt : k < S.length
    · obtain ⟨b1, o1, rfl, hb1, hv1⟩ := H1.out (by omega)
      obtain ⟨x0, x1, Aj, cj, x2, hr⟩ := hv1 k hlt
      have wc := fun o => HB.out.cell (p := ⟨b1, o, none⟩) hb1
      have x2 := (wc _).trans x2
      have hbs := HB.out.size
      have hbw : b1 < wr.heap.size := Nat.lt_of_lt_of_le hb1 hbs
      have n0 : (0 : Int) ≤ (k : Int) := by omega
      have n1 : (k : Int) < (S.length : Int) := by omega
      have NO : Hid (200 < S[k].ar.length → capS S = ([], 6)) := Lib.hid (fun h => capS_no (Or.inr ⟨_, List.getElem_mem hlt, h⟩))
      have NX : Hid (S[k].ar.length ≤ 200 → ∀ j (h : j < S.length), j < k + 1 → S[j].ar.length ≤ 200) := Lib.hid (fun hg j h hj => by
        by_cases e : j < k
        · exact HT.out j h e
        · obtain rfl : j = k := by omega
          exact hg)
      clear hv1 wc x0 x1 hr HT
      generalize S[k].ar.length = n at *
      by_cases c0 : 200 < n
      · have HN := Lib.hid (NO.out c0); clear NX NO
        have c1 : (200 : Int) < (n : Int) := by omega
        go_wp2_with fail
        go_ret2
        rw [HN.out]
        exact ⟨Or.inr ⟨rfl, rfl, rfl⟩, HB.out⟩
      · have HN := Lib.hid (NX.out (by omega)); clear NX NO
        have c1 : ¬ (200 : Int) < (n : Int) := by omega
        go_wp2_with fail
        go_roundw
        case rel => exact ⟨k + 1, by omega, by go_num, HB, HN⟩
        case measure => simp [intOf]; omega
    · obtain rfl : k = S.length := by omega
      by_cases c0 : 80 < S.length
      · have HN : Hid (capS S = ([], 6)) := Lib.hid (capS_no (Or.inl c0))
        have c1 : (80 : Int) < (S.length : Int) := by omega
        go_wp2_with fail
        go_ret2
        rw [HN.out]
        exact ⟨Or.inr ⟨rfl, rfl, rfl⟩, HB.out⟩
      · have HN : Hid (capS S = (S, 0)) := Lib.hid (capS_yes (by omega) (fun s hs => by
          obtain ⟨j, hj, rfl⟩ := List.mem_iff_getElem.1 hs
          exact HT.out j hj hj))
        have c1 : ¬ (80 : Int) < (S.length : Int) := by omega
        go_wp2_with fail
        go_ret2
        rw [HN.out]
        exact ⟨Or.inl ⟨rfl, rfl, rfl⟩, HB.out⟩
end Go.Proofs.YtdnoadngfkiabaaGreat
namespace Go.Proofs.YtdnoadngfkiabaaGreat
open Go.RowKit

structure IIn (w : World) (A : Option Addr) (cap : Nat) (t : List Int) : Prop where
  row : IRow w A t
  asc : Asc t
  len : t.length ≤ 1099511627776
  room : t.length ≤ cap
  room2 : cap ≤ 9223372036854775807
  nil : t = [] → A = none ∧ cap = 0
theorem IIn.below {w w' : World} {A : Option Addr} {c : Nat} {t : List Int} (h : IIn w A c t) (hb : Below w.heap.size w w') : IIn w' A c t := ⟨h.row.below hb, h.asc, h.len, h.room, h.room2, h.nil⟩
def InsIs (t : List Int) (w : World) (e : Ending) (w' : World) : Prop := ∃ A c, e = .returned (.slice A t.length c) ∧ IIn w' A c t ∧ Below w.heap.size w w'
theorem sortS_asc9 {t : List Int} (h : Asc t) : sortS t = t := asc_eq (sortS_is t).1 h (fun z => (sortS_is t).2 z)
theorem insS_asc9 {x : Int} {t : List Int} (h : Asc t) : Asc (insS x t) := by
  have := (sortS_is (t ++ [x])).1
  rw [sortS_snoc, sortS_asc9 h] at this
  exact this
/-- the source of an append of ints. -/
def Src1 (w : World) (v2 : Value) (m : Nat) (news : List Value) : Prop := (v2 = .slice none 0 0 ∧ m = 0 ∧ news = []) ∨ ∃ ad c, v2 = .slice (some ad) m c ∧ news.length = m * 1 ∧ (∀ j u, news[j]? = some u → w.cell? (ad.add j) = some u) ∧ ∀ u ∈ news, u.oneCell' = true
theorem wpList_append_src1 {P : Program} {w : World} {ops : Array Oper} {rest : List Oper} {o : Oper} {a : Act} {Q : Exit → Act → World → Prop} (hgd : o.guard = none) (s x : Operand) (t : TypeId)
    (ho : o.op = .call { callee := .builtin .append, args := #[s, x], argTypes := #[t, t] })
    (base : Nat) (e : TypeId) (i : TypeInfo) (z : Value) (bytes : Nat) (ht : P.underlying t = some (.slice e)) (hi : P.info? e = some i) (hz : i.zero = some z)
    (hsize : i.size = 1) (hby : i.bytes = bytes) (hzs : z.cells.size = 1)
    (v : Value) (n : Nat) (xs : List Value) (hs : a.eval s = v) (hown : w.ownsRow base e 1 v n xs)
    (v2 : Value) (m : Nat) (news : List Value) (hx : a.eval x = v2) (hsrc : Src1 w v2 m news)
    (h63 : n + m ≤ maxLen) (hbytes : (n + m) * bytes ≤ 140737488355328) (hbase : base ≤ w.heap.size)
    (h : ∀ v' w', w'.ownsRow base e 1 v' (n + m) (xs ++ news) → w.grownBy w' v.ownBlock → wpList P ops Q rest (a.put o.dst v') w') : wpList P ops Q (o :: rest) a w := by
  rcases hsrc with ⟨h1, rfl, rfl⟩ | ⟨ad, c, h1, h2, h3, h4⟩
  · exact wpList_append_own_none hgd s x t ho base e i 1 ht hi v n xs hs hown (hx.trans h1) (h v w (by rw [List.append_nil]; exact hown) (World.grownBy.refl _ _))
  · exact wpList_append_own w hgd s x t ho base e i z 1 bytes ht hi hz hsize hby hzs (by decide) v n xs hs hown ad m c news (hx.trans h1) h2 h3 h4 h63 hbytes hbase (fun v' w' a b _ => h v' w' a b)
theorem zero_own1 (w : World) : (w.alloc (.cells #[] 3)).ownsRow w.heap.size 3 1 (.slice (some ⟨w.heap.size, 0, none⟩) 0 0) 0 [] :=
  ⟨rfl, Or.inr ⟨w.heap.size, 0, #[], rfl, Nat.le_refl _, heap_alloc_new w _, Nat.le_refl _, by unfold maxLen; omega, rfl, rfl⟩⟩
theorem icells_at9 (t : List Int) (j : Nat) : (icells t)[j]? = (t[j]?).map (Value.int .i64) := by simp [icells]
theorem src_ints {w : World} {b o c : Nat} {t : List Int} (hv : ∀ j (h : j < t.length), w.cell? ⟨b, o + j, none⟩ = some (.int .i64 t[j])) (k m : Nat) (hm : k + m ≤ t.length) : Src1 w (.slice (some ⟨b, o + k, none⟩) m c) m (icells ((t.drop k).take m)) := by
  refine Or.inr ⟨⟨b, o + k, none⟩, c, rfl, by simp [icells]; omega, fun j u hu => ?_, fun u hu => ?_⟩
  · rw [icells_at9] at hu
    by_cases hj : j < m
    · rw [List.getElem?_take_of_lt hj, List.getElem?_drop, List.getElem?_eq_getElem (by omega)] at hu
      simp only [Option.map_some, Option.some.injEq] at hu
      subst hu
      have := hv (k + j) (by omega)
      have hadd : (⟨b, o + k, none⟩ : Addr).add j = ⟨b, o + (k + j), none⟩ := by unfold Addr.add; split <;> simp_all <;> omega
      rw [hadd]; exact this
    · rw [List.getElem?_take_eq_none (by omega)] at hu; simp at hu
  · obtain ⟨z, _, rfl⟩ := List.mem_map.1 hu
    rfl
theorem own_ints9 {w : World} {B : Nat} {v : Value} {l : List Int} (h : w.ownsRow B 3 1 v l.length (icells l)) : ∃ A cap, v = .slice A l.length cap ∧ IRow w A l ∧ l.length ≤ cap ∧ cap ≤ 9223372036854775807 := by
  obtain ⟨A, cap, rfl, hr⟩ := IRow.of_own h
  refine ⟨A, cap, rfl, hr, ?_⟩
  obtain ⟨h1, h2⟩ := h
  rcases h2 with ⟨e, h3⟩ | ⟨g, cap', cur, e, hB, hg, hle, hmax, h4⟩
  · injection e with e1 e2 e3; subst e3; omega
  · injection e with e1 e2 e3; subst e3; unfold maxLen at hmax; omega
theorem insS_in9 {x : Int} {t : List Int} (h : Asc t) (hx : x ∈ t) : insS x t = t := by
  refine asc_eq (insS_asc9 h) h (fun z => ?_)
  have := (sortS_is (t ++ [x])).2 z
  rw [sortS_snoc, sortS_asc9 h] at this
  rw [this]
  simp only [List.mem_append, List.mem_singleton]
  exact ⟨fun k => k.elim id (fun k => by subst k; exact hx), Or.inl⟩
theorem ins_fin {t L : List Int} {n : Int} {k : Nat} {w w6 : World} {v6 : Value} (ha : Asc t) (hl : t.length ≤ 1099511627775) (hL : insS n t = t.take k ++ n :: t.drop k) (hk : k ≤ t.length) (ho : w6.ownsRow w.heap.size 3 1 v6 (k + 1 + (t.length - k)) (icells (t.take k) ++ (icells [n] ++ icells (t.drop k)))) (hb : Below w.heap.size w w6) : InsIs (insS n t) w (.returned v6) w6 := by
  have e1 : icells (t.take k) ++ (icells [n] ++ icells (t.drop k)) = icells (insS n t) := by rw [hL]; simp [icells]
  have e2 : k + 1 + (t.length - k) = (insS n t).length := by rw [hL, List.length_append, List.length_cons, List.length_take, List.length_drop]; omega
  rw [e1, e2] at ho
  obtain ⟨A, c, rfl, hr, h1, h2⟩ := own_ints9 ho
  have h3 := insS_len n t
  exact ⟨A, c, rfl, ⟨hr, insS_asc9 ha, by omega, h1, h2, fun e => by rw [hL] at e; simp at e⟩, hb⟩
set_option maxHeartbeats 16000000 in
/-- the insertion at place k: the three appends. -/
theorem dins_at (A : Option Addr) (cap : Nat) (t : List Int) (n : Int) (w : World) (h : IIn w A cap t) (hlt2 : t.length ≤ 1000000000) :
    Calls Tryz.prog 40 #[.slice A t.length cap, .int .i64 n] w (InsIs (insS n t) w) := by
  obtain ⟨i0, hi9, hz0, hz1, hz2⟩ := info_parts infoInt
  have KA := Lib.hid h
  have hl := h.len; have hroom := h.room
  have HB0 := Lib.hid (Below.refl w.heap.size w)
  clear h
  go_enter Tryz.func40, Tryz.ntmps40
  go_wp2_with fail
  go_loopw [5] (fun i wr => ∃ k : Nat, k ≤ t.length ∧ i = .int .i64 k ∧ Hid (Below w.heap.size w wr) ∧ Hid (∀ j (h : j < t.length), j < k → t[j] < n)) (fun i _ => t.length - (intOf i).toNat)
  case atStart => exact ⟨0, Nat.zero_le _, rfl, HB0, Lib.hid (fun j _ h => absurd h (Nat.not_lt_zero _))⟩
  case round =>
    clear HB0
    obtain ⟨k, hk, rfl, HB, HT⟩ := hrel
    have n0 : (0 : Int) ≤ (k : Int) := by omega
    by_cases hlt : k < t.length
    · obtain ⟨b1, o1, rfl, hb1, hv1⟩ := KA.out.row (by omega)
      have x0 := (HB.out.cell (p := ⟨b1, _, none⟩) hb1).trans (hv1 k hlt)
      have hbs := HB.out.size
      have hbw : b1 < wr.heap.size := Nat.lt_of_lt_of_le hb1 hbs
      have n1 : (k : Int) < (t.length : Int) := by omega
      have NX : Hid (t[k] < n → ∀ j (h : j < t.length), j < k + 1 → t[j] < n) := Lib.hid (fun hg j h hj => by
        by_cases e : j < k
        · exact HT.out j h e
        · obtain rfl : j = k := by omega
          exact hg)
      have HX : Hid (t[k] = n → insS n t = t) := Lib.hid (fun e => insS_in9 KA.out.asc (e ▸ List.getElem_mem hlt))
      have HY : Hid (n < t[k] → insS n t = t.take k ++ n :: t.drop k) := Lib.hid (fun e => insS_at KA.out.asc (fun j h hj => by
        by_cases q : k = j
        · subst q; exact e
        · have := asc_at KA.out.asc hlt h (by omega); omega) (fun j h hj => HT.out j h hj) (by omega))
      have HV := Lib.hid hv1
      clear hv1
      obtain ⟨x, hx⟩ : ∃ x, x = t[k] := ⟨_, rfl⟩
      rw [← hx] at x0 NX HX HY
      clear hx
      by_cases c0 : x < n
      · have HN := Lib.hid (NX.out c0); clear NX HX HY
        go_wp2_with fail
        go_roundw
        case rel => exact ⟨k + 1, by omega, by go_num, HB, HN⟩
        case measure => simp [intOf]; omega
      · by_cases c1 : x = n
        · have c2 : (x == n) = true := by simp [c1]
          have HE := Lib.hid (HX.out c1); clear NX HX HY
          go_wp2_with fail
          go_ret
          rw [HE.out]
          exact ⟨_, _, rfl, KA.out.below HB.out, HB.out⟩
        · have c2 : (x == n) = false := by simp [c1]
          have HE := Lib.hid (HY.out (by omega)); clear NX HX HY
          go_wp2_with (at_builtin; refine wpList_append_src1 rfl _ _ 51 rfl w.heap.size 3 i0 (.int .i64 0) 8 Tryz.underlying51 hi9 hz0 hz1 hz2 rfl _ 0 [] rfl (own_base (zero_own1 wr) hbs) _ k (icells (t.take k)) rfl ?src ?c3 ?c4 ?c5 ?_)
          case src => 
            have h3 := src_ints (w := wr.alloc (.cells #[] 3)) (c := cap) (t := t) (b := b1) (o := o1) (fun j h => ((HB.out.alloc hbs _).cell (p := ⟨b1, _, none⟩) hb1).trans (HV.out j h)) 0 k (by omega)
            exact h3
          case c3 => unfold maxLen; omega
          case c4 => omega
          case c5 => first | omega | (simp; omega)
          intro v' w4 hown' hgr
          have HO4 : Hid (w4.ownsRow w.heap.size 3 1 v' k (icells (t.take k)) ∧ Below w.heap.size w w4) := Lib.hid ⟨by simpa using hown', Below.grown (HB.out.alloc hbs _) hgr (by simp; omega) (fun k hk => ((own_base (zero_own1 wr) hbs).lt k hk).1)⟩
          have hbs4 := HO4.out.2.size
          clear hown' hgr
          go_wp2_with (at_builtin; refine wpList_append_src1 rfl _ _ 51 rfl w.heap.size 3 i0 (.int .i64 0) 8 Tryz.underlying51 hi9 hz0 hz1 hz2 rfl _ k (icells (t.take k)) rfl (HO4.out.1.alloc _) _ 1 (icells [n]) rfl ?src ?c3 ?c4 ?c5 ?_)
          case src => 
            have h0 := heap_alloc_new w4 (.cells #[.int .i64 n] 3)
            have h3 := src_ints (w := w4.alloc (.cells #[.int .i64 n] 3)) (c := 1) (t := [n]) (b := w4.heap.size) (o := 0) (fun j h => by
              obtain rfl : j = 0 := by simp at h; omega
              rw [Lib.cell_of_heap h0]; rfl) 0 1 (by simp)
            exact h3
          case c3 => unfold maxLen; omega
          case c4 => omega
          case c5 => first | omega | (simp; omega)
          intro v5 w5 hown' hgr
          have HO5 : Hid (w5.ownsRow w.heap.size 3 1 v5 (k + 1) (icells (t.take k) ++ icells [n]) ∧ Below w.heap.size w w5) := Lib.hid ⟨hown', Below.grown (HO4.out.2.alloc hbs4 _) hgr (by simp; omega) (fun k hk => (HO4.out.1.lt k hk).1)⟩
          have hbs5 := HO5.out.2.size
          clear hown' hgr
          go_wp2_with (at_builtin; refine wpList_append_src1 rfl _ _ 51 rfl w.heap.size 3 i0 (.int .i64 0) 8 Tryz.underlying51 hi9 hz0 hz1 hz2 rfl _ (k + 1) (icells (t.take k) ++ icells [n]) rfl HO5.out.1 _ (t.length - k) (icells (t.drop k)) rfl ?src ?c3 ?c4 ?c5 ?_)
          case src => 
            have h3 := src_ints (w := w5) (c := cap - k) (t := t) (b := b1) (o := o1) (fun j h => (HO5.out.2.cell (p := ⟨b1, _, none⟩) hb1).trans (HV.out j h)) k (t.length - k) (by omega)
            rw [List.take_of_length_le (by rw [List.length_drop]; omega)] at h3
            exact h3
          case c3 => unfold maxLen; omega
          case c4 => omega
          case c5 => first | omega | (simp; omega)
          intro v6 w6 hown' hgr
          have HF : Hid (InsIs (insS n t) w (.returned v6) w6) := by
            exact ins_fin (L := []) KA.out.asc (by omega) HE.out hk hown' (Below.grown HO5.out.2 hgr hbs5 (fun k hk => (HO5.out.1.lt k hk).1))
          clear hown' hgr
          go_wp2_with fail
          go_ret
          exact HF.out
    · obtain rfl : k = t.length := by omega
      have hbs := HB.out.size
      have HE : Hid (insS n t = t.take t.length ++ n :: t.drop t.length) := Lib.hid (insS_at KA.out.asc (fun j h hj => by omega) (fun j h hj => HT.out j h hj) (Nat.le_refl _))
      by_cases h0 : t = []
      · obtain ⟨rfl, rfl⟩ := KA.out.nil h0
        subst h0
        go_wp2_with (at_builtin; refine wpList_append_src1 rfl _ _ 51 rfl w.heap.size 3 i0 (.int .i64 0) 8 Tryz.underlying51 hi9 hz0 hz1 hz2 rfl _ 0 [] rfl (own_base (zero_own1 wr) hbs) _ 0 (icells (([] : List Int).take 0)) rfl ?src ?c3 ?c4 ?c5 ?_)
        case src => exact Or.inl ⟨rfl, rfl, rfl⟩
        case c3 => unfold maxLen; omega
        case c4 => omega
        case c5 => first | omega | (simp; omega)
        intro v' w4 hown' hgr
        have HO4 : Hid (w4.ownsRow w.heap.size 3 1 v' 0 (icells (([] : List Int).take 0)) ∧ Below w.heap.size w w4) := Lib.hid ⟨by simpa using hown', Below.grown (HB.out.alloc hbs _) hgr (by simp; omega) (fun k hk => ((own_base (zero_own1 wr) hbs).lt k hk).1)⟩
        have hbs4 := HO4.out.2.size
        clear hown' hgr
        go_wp2_with (at_builtin; refine wpList_append_src1 rfl _ _ 51 rfl w.heap.size 3 i0 (.int .i64 0) 8 Tryz.underlying51 hi9 hz0 hz1 hz2 rfl _ 0 (icells (([] : List Int).take 0)) rfl (HO4.out.1.alloc _) _ 1 (icells [n]) rfl ?src ?c3 ?c4 ?c5 ?_)
        case src => 
          have h0 := heap_alloc_new w4 (.cells #[.int .i64 n] 3)
          have h3 := src_ints (w := w4.alloc (.cells #[.int .i64 n] 3)) (c := 1) (t := [n]) (b := w4.heap.size) (o := 0) (fun j h => by
            obtain rfl : j = 0 := by simp at h; omega
            rw [Lib.cell_of_heap h0]; rfl) 0 1 (by simp)
          exact h3
        case c3 => unfold maxLen; omega
        case c4 => omega
        case c5 => first | omega | (simp; omega)
        intro v5 w5 hown' hgr
        have HO5 : Hid (w5.ownsRow w.heap.size 3 1 v5 (0 + 1) (icells (([] : List Int).take 0) ++ icells [n]) ∧ Below w.heap.size w w5) := Lib.hid ⟨hown', Below.grown (HO4.out.2.alloc hbs4 _) hgr (by simp; omega) (fun k hk => (HO4.out.1.lt k hk).1)⟩
        have hbs5 := HO5.out.2.size
        clear hown' hgr
        go_wp2_with (at_builtin; refine wpList_append_src1 rfl _ _ 51 rfl w.heap.size 3 i0 (.int .i64 0) 8 Tryz.underlying51 hi9 hz0 hz1 hz2 rfl _ (0 + 1) (icells (([] : List Int).take 0) ++ icells [n]) rfl HO5.out.1 _ (0 - 0) (icells (([] : List Int).drop 0)) rfl ?src ?c3 ?c4 ?c5 ?_)
        case src => exact Or.inl ⟨rfl, rfl, rfl⟩
        case c3 => unfold maxLen; omega
        case c4 => omega
        case c5 => first | omega | (simp; omega)
        intro v6 w6 hown' hgr
        have HF : Hid (InsIs (insS n []) w (.returned v6) w6) := by
          exact ins_fin (L := []) KA.out.asc (by simp) HE.out (Nat.le_refl _) hown' (Below.grown HO5.out.2 hgr hbs5 (fun k hk => (HO5.out.1.lt k hk).1))
        clear hown' hgr
        go_wp2_with fail
        go_ret
        exact HF.out
      · have hpos := List.length_pos_iff.2 h0
        obtain ⟨b1, o1, rfl, hb1, hv1⟩ := KA.out.row hpos
        have HV := Lib.hid hv1
        clear hv1
        by_cases hcap : cap = t.length
        · subst hcap
          go_wp2_with (at_builtin; refine wpList_append_src1 rfl _ _ 51 rfl w.heap.size 3 i0 (.int .i64 0) 8 Tryz.underlying51 hi9 hz0 hz1 hz2 rfl _ 0 [] rfl (own_base (zero_own1 wr) hbs) _ t.length (icells t) rfl ?src ?c3 ?c4 ?c5 ?_)
          case src =>
            have h3 := src_ints (w := wr.alloc (.cells #[] 3)) (c := t.length) (t := t) (b := b1) (o := o1) (fun j h => ((HB.out.alloc hbs _).cell (p := ⟨b1, _, none⟩) hb1).trans (HV.out j h)) 0 t.length (by omega)
            rw [List.drop_zero, List.take_length] at h3
            exact h3
          case c3 => unfold maxLen; omega
          case c4 => omega
          case c5 => first | omega | (simp; omega)
          intro v' w4 hown' hgr
          have HO4 : Hid (w4.ownsRow w.heap.size 3 1 v' t.length (icells t) ∧ Below w.heap.size w w4) := Lib.hid ⟨by simpa using hown', Below.grown (HB.out.alloc hbs _) hgr (by simp; omega) (fun k hk => ((own_base (zero_own1 wr) hbs).lt k hk).1)⟩
          have hbs4 := HO4.out.2.size
          clear hown' hgr
          go_wp2_with (at_builtin; refine wpList_append_src1 rfl _ _ 51 rfl w.heap.size 3 i0 (.int .i64 0) 8 Tryz.underlying51 hi9 hz0 hz1 hz2 rfl _ t.length (icells t) rfl (HO4.out.1.alloc _) _ 1 (icells [n]) rfl ?src ?c3 ?c4 ?c5 ?_)
          case src => 
            have h0 := heap_alloc_new w4 (.cells #[.int .i64 n] 3)
            have h3 := src_ints (w := w4.alloc (.cells #[.int .i64 n] 3)) (c := 1) (t := [n]) (b := w4.heap.size) (o := 0) (fun j h => by
              obtain rfl : j = 0 := by simp at h; omega
              rw [Lib.cell_of_heap h0]; rfl) 0 1 (by simp)
            exact h3
          case c3 => unfold maxLen; omega
          case c4 => omega
          case c5 => first | omega | (simp; omega)
          intro v5 w5 hown' hgr
          have HO5 : Hid (w5.ownsRow w.heap.size 3 1 v5 (t.length + 1) (icells t ++ icells [n]) ∧ Below w.heap.size w w5) := Lib.hid ⟨hown', Below.grown (HO4.out.2.alloc hbs4 _) hgr (by simp; omega) (fun k hk => (HO4.out.1.lt k hk).1)⟩
          have hbs5 := HO5.out.2.size
          clear hown' hgr
          go_wp2_with (at_builtin; refine wpList_append_src1 rfl _ _ 51 rfl w.heap.size 3 i0 (.int .i64 0) 8 Tryz.underlying51 hi9 hz0 hz1 hz2 rfl _ (t.length + 1) (icells t ++ icells [n]) rfl HO5.out.1 _ 0 (icells []) rfl ?src ?c3 ?c4 ?c5 ?_)
          case src => exact Or.inr ⟨_, _, rfl, rfl, fun j u hu => by simp [icells] at hu, fun u hu => by simp [icells] at hu⟩
          case c3 => unfold maxLen; omega
          case c4 => omega
          case c5 => first | omega | (simp; omega)
          intro v6 w6 hown' hgr
          have HF : Hid (InsIs (insS n t) w (.returned v6) w6) := by
            exact ins_fin (L := []) KA.out.asc (by omega) HE.out (Nat.le_refl _) (by rw [List.take_length, List.drop_length, Nat.sub_self]; simpa [icells] using hown') (Below.grown HO5.out.2 hgr hbs5 (fun k hk => (HO5.out.1.lt k hk).1))
          clear hown' hgr
          go_wp2_with fail
          go_ret
          exact HF.out
        · have hcap2 : t.length < cap := by omega
          go_wp2_with (at_builtin; refine wpList_append_src1 rfl _ _ 51 rfl w.heap.size 3 i0 (.int .i64 0) 8 Tryz.underlying51 hi9 hz0 hz1 hz2 rfl _ 0 [] rfl (own_base (zero_own1 wr) hbs) _ t.length (icells t) rfl ?src ?c3 ?c4 ?c5 ?_)
          case src =>
            have h3 := src_ints (w := wr.alloc (.cells #[] 3)) (c := cap) (t := t) (b := b1) (o := o1) (fun j h => ((HB.out.alloc hbs _).cell (p := ⟨b1, _, none⟩) hb1).trans (HV.out j h)) 0 t.length (by omega)
            rw [List.drop_zero, List.take_length] at h3
            exact h3
          case c3 => unfold maxLen; omega
          case c4 => omega
          case c5 => first | omega | (simp; omega)
          intro v' w4 hown' hgr
          have HO4 : Hid (w4.ownsRow w.heap.size 3 1 v' t.length (icells t) ∧ Below w.heap.size w w4) := Lib.hid ⟨by simpa using hown', Below.grown (HB.out.alloc hbs _) hgr (by simp; omega) (fun k hk => ((own_base (zero_own1 wr) hbs).lt k hk).1)⟩
          have hbs4 := HO4.out.2.size
          clear hown' hgr
          go_wp2_with (at_builtin; refine wpList_append_src1 rfl _ _ 51 rfl w.heap.size 3 i0 (.int .i64 0) 8 Tryz.underlying51 hi9 hz0 hz1 hz2 rfl _ t.length (icells t) rfl (HO4.out.1.alloc _) _ 1 (icells [n]) rfl ?src ?c3 ?c4 ?c5 ?_)
          case src => 
            have h0 := heap_alloc_new w4 (.cells #[.int .i64 n] 3)
            have h3 := src_ints (w := w4.alloc (.cells #[.int .i64 n] 3)) (c := 1) (t := [n]) (b := w4.heap.size) (o := 0) (fun j h => by
              obtain rfl : j = 0 := by simp at h; omega
              rw [Lib.cell_of_heap h0]; rfl) 0 1 (by simp)
            exact h3
          case c3 => unfold maxLen; omega
          case c4 => omega
          case c5 => first | omega | (simp; omega)
          intro v5 w5 hown' hgr
          have HO5 : Hid (w5.ownsRow w.heap.size 3 1 v5 (t.length + 1) (icells t ++ icells [n]) ∧ Below w.heap.size w w5) := Lib.hid ⟨hown', Below.grown (HO4.out.2.alloc hbs4 _) hgr (by simp; omega) (fun k hk => (HO4.out.1.lt k hk).1)⟩
          have hbs5 := HO5.out.2.size
          clear hown' hgr
          go_wp2_with (at_builtin; refine wpList_append_src1 rfl _ _ 51 rfl w.heap.size 3 i0 (.int .i64 0) 8 Tryz.underlying51 hi9 hz0 hz1 hz2 rfl _ (t.length + 1) (icells t ++ icells [n]) rfl HO5.out.1 _ 0 (icells []) rfl ?src ?c3 ?c4 ?c5 ?_)
          case src => exact Or.inr ⟨_, _, rfl, rfl, fun j u hu => by simp [icells] at hu, fun u hu => by simp [icells] at hu⟩
          case c3 => unfold maxLen; omega
          case c4 => omega
          case c5 => first | omega | (simp; omega)
          intro v6 w6 hown' hgr
          have HF : Hid (InsIs (insS n t) w (.returned v6) w6) := by
            exact ins_fin (L := []) KA.out.asc (by omega) HE.out (Nat.le_refl _) (by rw [List.take_length, List.drop_length, Nat.sub_self]; simpa [icells] using hown') (Below.grown HO5.out.2 hgr hbs5 (fun k hk => (HO5.out.1.lt k hk).1))
          clear hown' hgr
          go_wp2_with fail
          go_ret
          exact HF.out
end Go.Proofs.YtdnoadngfkiabaaGreat
namespace Go.Proofs.YtdnoadngfkiabaaGreat
open Go.RowKit

set_option maxHeartbeats 40000000 in
theorem dadd_any (L : List SlV) (v : Value) (t : SlV) (w0 w : World) (h : SW v L w0 w) (ht : w.ownsRow w0.heap.size 33 4 (.slice t.A t.s.ar.length t.c) t.s.ar.length (rcells t.s.ar)) (hL : L.length ≤ 100000) (hla : ∀ u ∈ L, u.s.ar.length ≤ 1000000) (hta : t.s.ar.length ≤ 1000000) :
    Calls Tryz.prog 41 #[v, .int .i64 t.s.z0, .int .i64 t.s.z1, .slice t.A t.s.ar.length t.c] w (JoinIs L t w0 w) := by
  have HW := Lib.hid h
  have HT := Lib.hid ht
  have hbs := h.bel.size
  obtain ⟨i0, hi9, hz0, hz1, hz2⟩ := info_parts infoSlab
  by_cases h0 : t.s.ar = []
  · have e0 : t.s.ar.length = 0 := by rw [h0]; rfl
    have FIN : Hid (JoinIs L t w0 w (.returned v) w) := Lib.hid ⟨v, L, rfl, (join_none h0).symm, HW.out⟩
    rw [e0]
    clear HW HT h ht hi9 hz0 hz1 hz2 h0 hla hta e0
    go_enter Tryz.func41, Tryz.ntmps41
    go_wp2_with fail
    go_ret
    exact FIN.out
  · have z1 : ((t.s.ar.length : Int) == 0) = false := by simp; exact h0
    have H0 := Lib.hid h0
    rcases List.eq_nil_or_concat L with hL0 | ⟨G, p, hGp⟩
    · subst hL0
      obtain ⟨A, cap, rfl, _, _, _⟩ := h.cells
      have HOWN := Lib.hid HW.out.own
      clear h ht hla
      have FIN : Hid (∀ w1 v' w', Below w.heap.size w w1 → w'.ownsRow w0.heap.size 40 3 v' (0 + 1) (svcells [] ++ svc t) → w1.grownBy w' (Value.ownBlock (.slice A 0 cap)) → JoinIs [] t w0 w (.returned v') w') := Lib.hid (fun w1 v' w' hb ho hg => ⟨v', [] ++ [t], rfl, (by simp only [svS, List.nil_append, List.map_cons, List.map_nil]; exact (join_first H0.out).symm), (HW.out.go hb).app (own_go HT.out hb) ho hg⟩)
      show Calls Tryz.prog 41 #[.slice A 0 cap, .int .i64 t.s.z0, .int .i64 t.s.z1, .slice t.A t.s.ar.length t.c] w (JoinIs [] t w0 w)
      go_enter Tryz.func41, Tryz.ntmps41
      go_wp2_with (at_builtin; refine wpList_append_own _ rfl _ _ 22 rfl w0.heap.size 40 i0 (.agg #[.int .i64 0, .int .i64 0, .slice none 0 0]) 3 40 Tryz.underlying22 hi9 hz0 hz1 hz2 rfl (by decide) _ _ _ rfl (HOWN.out.alloc _) ⟨w.heap.size, 0, none⟩ 1 1 [.int .i64 t.s.z0, .int .i64 t.s.z1, .slice t.A t.s.ar.length t.c] rfl rfl ?c1 ?c2 ?c3 ?c4 ?c5 ?_)
      case c1 => exact news3 _ _ (by simp) _ _ _ _
      case c2 => intro u hu; simp only [List.mem_cons, List.not_mem_nil, or_false] at hu; rcases hu with rfl | rfl | rfl <;> rfl
      case c3 => unfold maxLen; omega
      case c4 => omega
      case c5 => simp; omega
      intro v' w4 hown' hgr _
      have FX := Lib.hid (FIN.out _ v' w4 ((Below.refl _ _).alloc (Nat.le_refl _) _) hown' hgr)
      clear hown' hgr
      go_wp2_with fail
      go_ret
      exact FX.out
    · rw [List.concat_eq_append] at hGp
      subst hGp
      obtain ⟨A, cap, rfl, _, _, hA⟩ := HW.out.cells
      obtain ⟨g, rfl, hg0, hg1, hgc⟩ := hA (by simp)
      obtain ⟨q0, q1, q2⟩ := hgc G.length (by simp)
      have ep : (G ++ [p])[G.length]'(by simp) = p := by simp
      rw [ep] at q0 q1 q2
      have HLEN : Hid ((G ++ [p]).length = G.length + 1) := Lib.hid (by simp)
      have hGl : G.length ≤ 99999 := by have := HLEN.out; omega
      have HPR := Lib.hid (own_rin (HW.out.ar p (by simp)) (by have := hla p (by simp); omega))
      have HTR := Lib.hid (own_rin HT.out (by omega))
      have HCA := Lib.hid (vsame_any p.A p.c t.A t.c p.s.ar t.s.ar w HPR.out.row HTR.out.row HPR.out.len HTR.out.len)
      have r1 : IntKind.i64.wrap (G.length : Int) = (G.length : Int) := IntWalk.i64_in _ (by omega)
      have m0 : (0 : Int) ≤ (G.length : Int) := by omega
      have m1 : (G.length : Int) < (G.length : Int) + 1 := by omega
      rw [HLEN.out]
      have WID : Hid (p.s.z1 = t.s.z0 ∧ p.s.ar = t.s.ar → ∀ w', Below w.heap.size w w' → JoinIs (G ++ [p]) t w0 w (.returned (.slice (some ⟨g, 0, none⟩) (G.length + 1) cap)) (w'.setCell ⟨g, G.length * 3 + 1, none⟩ (.int .i64 t.s.z1))) := Lib.hid (fun ce w' hb => ⟨_, G ++ [⟨⟨p.s.z0, t.s.z1, p.s.ar⟩, p.A, p.c⟩], rfl, (by
          rw [svS_append, svS_append]
          exact (join_wide H0.out ce.1 ce.2).symm), (by
          have hw := HW.out.go hb
          rw [HLEN.out] at hw
          exact hw.setz rfl _)⟩)
      have HFZ : Hid (∀ w', Below w.heap.size w w' → w'.frozen? ⟨g, G.length * 3 + 1, none⟩ = false) := Lib.hid (fun w' hb => (HW.out.go hb).own.frozenAt _)
      have FIN : Hid (¬ (p.s.z1 = t.s.z0 ∧ p.s.ar = t.s.ar) → ∀ w1 v' w', Below w.heap.size w w1 → w'.ownsRow w0.heap.size 40 3 v' (G.length + 1 + 1) (svcells (G ++ [p]) ++ svc t) → w1.grownBy w' (Value.ownBlock (.slice (some ⟨g, 0, none⟩) (G.length + 1) cap)) → JoinIs (G ++ [p]) t w0 w (.returned v') w') := Lib.hid (fun ce w1 v' w' hb ho hg => ⟨v', (G ++ [p]) ++ [t], rfl, (by
          rw [svS_append, svS_append]
          exact (join_new H0.out ce).symm), (HW.out.go hb).app (own_go HT.out hb) (by rw [HLEN.out]; exact ho) (by rw [HLEN.out] ; exact hg)⟩)
      have HOWN : Hid (∀ w', Below w.heap.size w w' → w'.ownsRow w0.heap.size 40 3 (.slice (some ⟨g, 0, none⟩) (G.length + 1) cap) (G.length + 1) (svcells (G ++ [p]))) := Lib.hid (fun w' hb => by
          have := (HW.out.go hb).own
          rw [HLEN.out] at this; exact this)
      clear h ht hla hta hgc ep hL HPR HTR HT HW
      obtain ⟨C, hC⟩ : ∃ C, C = svcells (G ++ [p]) := ⟨_, rfl⟩
      rw [← hC] at FIN HOWN
      clear hC
      obtain ⟨m, hm⟩ : ∃ m, m = G.length := ⟨_, rfl⟩
      rw [← hm] at q0 q1 q2 WID HFZ FIN HOWN r1 m0 m1 hGl ⊢
      clear hm HLEN
      by_cases ce : p.s.z1 = t.s.z0
      · have d1 : (p.s.z1 == t.s.z0) = true := by simp [ce]
        by_cases ca : p.s.ar = t.s.ar
        · rw [decide_eq_true ca] at HCA
          have WX := Lib.hid (WID.out ⟨ce, ca⟩)
          clear WID FIN HOWN ce ca
          go_enter Tryz.func41, Tryz.ntmps41
          go_wp2_with fail
          refine HCA.out.mono ?_
          rintro e w1 ⟨rfl, hb⟩
          have FX := Lib.hid (WX.out _ hb)
          have f0 := HFZ.out _ hb
          have q1 := (hb.cell (p := ⟨g, _, none⟩) hg1).trans q1
          have ql := Nat.lt_of_lt_of_le hg1 hb.size
          clear hb WX HFZ HCA
          go_wp2_with fail
          go_ret
          exact FX.out
        · rw [decide_eq_false ca] at HCA
          have FX := Lib.hid (FIN.out (fun h => ca h.2))
          clear WID FIN HFZ ce ca
          go_enter Tryz.func41, Tryz.ntmps41
          go_wp2_with fail
          refine HCA.out.mono ?_
          rintro e w1 ⟨rfl, hb⟩
          have HB1 := Lib.hid hb
          have HOX := Lib.hid (HOWN.out _ hb)
          have hbz2 : w0.heap.size ≤ w1.heap.size := Nat.le_trans hbs hb.size
          clear hb HOWN HCA
          go_wp2_with (at_builtin; refine wpList_append_own _ rfl _ _ 22 rfl w0.heap.size 40 i0 (.agg #[.int .i64 0, .int .i64 0, .slice none 0 0]) 3 40 Tryz.underlying22 hi9 hz0 hz1 hz2 rfl (by decide) _ _ _ rfl (HOX.out.alloc _) ⟨w1.heap.size, 0, none⟩ 1 1 [.int .i64 t.s.z0, .int .i64 t.s.z1, .slice t.A t.s.ar.length t.c] rfl rfl ?d1 ?d2 ?d3 ?d4 ?d5 ?_)
          case d1 => exact news3 _ _ (by simp) _ _ _ _
          case d2 => intro u hu; simp only [List.mem_cons, List.not_mem_nil, or_false] at hu; rcases hu with rfl | rfl | rfl <;> rfl
          case d3 => unfold maxLen; omega
          case d4 => omega
          case d5 => simp; omega
          intro v' w4 hown' hgr _
          have FY := Lib.hid (FX.out _ v' w4 (HB1.out.alloc HB1.out.size _) hown' hgr)
          clear hown' hgr FX
          go_wp2_with fail
          go_ret
          exact FY.out
      · have d1 : (p.s.z1 == t.s.z0) = false := by simp [ce]
        have FX := Lib.hid (FIN.out (fun h => ce h.1))
        have HB1 := Lib.hid (Below.refl w.heap.size w)
        have HOX := Lib.hid (HOWN.out _ HB1.out)
        obtain ⟨w1, hw1⟩ : ∃ w1, w1 = w := ⟨_, rfl⟩
        have hbz2 : w0.heap.size ≤ w.heap.size := hbs
        clear WID FIN HFZ ce HOWN HCA hw1 w1
        go_enter Tryz.func41, Tryz.ntmps41
        go_wp2_with (at_builtin; refine wpList_append_own _ rfl _ _ 22 rfl w0.heap.size 40 i0 (.agg #[.int .i64 0, .int .i64 0, .slice none 0 0]) 3 40 Tryz.underlying22 hi9 hz0 hz1 hz2 rfl (by decide) _ _ _ rfl (HOX.out.alloc _) ⟨w.heap.size, 0, none⟩ 1 1 [.int .i64 t.s.z0, .int .i64 t.s.z1, .slice t.A t.s.ar.length t.c] rfl rfl ?d1 ?d2 ?d3 ?d4 ?d5 ?_)
        case d1 => exact news3 _ _ (by simp) _ _ _ _
        case d2 => intro u hu; simp only [List.mem_cons, List.not_mem_nil, or_false] at hu; rcases hu with rfl | rfl | rfl <;> rfl
        case d3 => unfold maxLen; omega
        case d4 => omega
        case d5 => simp; omega
        intro v' w4 hown' hgr _
        have FY := Lib.hid (FX.out _ v' w4 (HB1.out.alloc HB1.out.size _) hown' hgr)
        clear hown' hgr FX
        go_wp2_with fail
        go_ret
        exact FY.out
end Go.Proofs.YtdnoadngfkiabaaGreat
