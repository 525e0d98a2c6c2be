/-
  Contracts of the program's layer 6 (18): Shift, without a rectangle; whole.
  Contracts of the program's layer 6 (14): Parts of two rectangles that don't touch, and of what is no region.
  The laws' examples (small).
  Contracts of the program's layer 9, 5: join.
-/
import Derived.Test.YtngddecpfhlilaaGreatC14
import Derived.Test.YtngddecpfhlilaaGreatC15
import Derived.Deep.AppendLies
set_option linter.unusedVariables false
set_option maxRecDepth 100000
namespace Go.Proofs.YtngddecpfhlilaaGreat
open Go.RowKit
end Go.Proofs.YtngddecpfhlilaaGreat
namespace Go.Proofs.YtngddecpfhlilaaGreat
open Go.RowKit
theorem gparts_no (A : Option Addr) (cap : Nat) (l : List Rc) (w : World) (h : RIn w A cap l) (hr : ¬ RegP l) : Calls Tryz.prog 133 #[.slice A l.length cap] w fun e w' => e = .returned (.slice none 0 0) ∧ Below w.heap.size w w' := by
 have RA := Lib.hid (gright_no A cap l w h.row h.len h.room h.room2 hr)
 clear h hr
 go_enter Tryz.func133, Tryz.ntmps133
 go_wp2_with fail
 refine RA.out.mono ?_
 rintro e1 w1 ⟨rfl, hb1⟩
 have HB1 := Lib.hid hb1; clear hb1 RA
 go_wp2_with fail
 go_ret
 exact ⟨rfl, HB1.out⟩
end Go.Proofs.YtngddecpfhlilaaGreat
namespace Go.Proofs.YtngddecpfhlilaaGreat
open Go.RowKit
def RB (w : World) (b : Nat) (l : List Rc) : Prop := w.heap[b]? = some (.cells (rcells l).toArray 68 (0, 0))
theorem RB.lt {w : World} {b : Nat} {l : List Rc} (h : RB w b l) : b < w.heap.size := (Array.getElem?_eq_some_iff.1 h).1
theorem RB.below {w w' : World} {b : Nat} {l : List Rc} (h : RB w b l) (hb : Below w.heap.size w w') : RB w' b l := (hb.block b h.lt).trans h
theorem RB.row {w : World} {b : Nat} {l : List Rc} (h : RB w b l) (hl : l.length ≤ 1099511627776) : RIn w (some ⟨b, 0, none⟩) l.length l := by
 refine ⟨fun _ => ⟨b, 0, rfl, h.lt, fun j hj => ?_⟩, hl, Nat.le_refl _, by omega⟩
 obtain ⟨e0, e1, e2, e3⟩ := rcells_at l j hj
 rw [Nat.zero_add]
 have c := fun i v (hv : (rcells l)[i]? = some v) => show w.cell? ⟨b, i, none⟩ = some v by
  rw [Lib.cell_of_heap h]; simpa using hv
 exact ⟨c _ _ e0, c _ _ e1, c _ _ e2, c _ _ e3⟩
theorem RB.new (w : World) (l : List Rc) (o : Array Value) (ho : o = (rcells l).toArray) : RB (w.alloc (.cells o 68)) w.heap.size l := by subst ho; exact heap_alloc_new w _
def L1 : List Rc := [⟨0, 0, 2, 2⟩, ⟨1, 1, 3, 3⟩]
def L2 : List Rc := [⟨0, 0, 3, 3⟩]
def L3 : List Rc := [⟨1, 1, 2, 2⟩]
def L4 : List Rc := [⟨0, 0, 1, 1⟩, ⟨1, 1, 2, 2⟩]
def LW : List Rc := [⟨0, 0, 1, 2⟩, ⟨1, 0, 2, 3⟩, ⟨2, 1, 3, 3⟩]
def L5 : List Rc := [⟨3, 0, 3, 1⟩]
def SK (L : List (Nat × List Rc)) (M : List (Option Addr × Nat × List Rc)) (w0 w : World) : Prop := (∀ p ∈ L, RB w p.1 p.2) ∧ (∀ p ∈ M, RIn w p.1 p.2.1 p.2.2) ∧ Below w0.heap.size w0 w
theorem SK.go {L : List (Nat × List Rc)} {M : List (Option Addr × Nat × List Rc)} {w0 w w' : World} (h : SK L M w0 w) (hb : Below w.heap.size w w') : SK L M w0 w' :=
 ⟨fun p hp => (h.1 p hp).below hb, fun p hp => (h.2.1 p hp).below hb, h.2.2.trans (hb.mono h.2.2.size)⟩
theorem SK.new {L : List (Nat × List Rc)} {M : List (Option Addr × Nat × List Rc)} {w0 w : World} (h : SK L M w0 w) (l : List Rc) (o : Array Value) (ho : o = (rcells l).toArray) (k : Nat) (hk : k = w.heap.size) : SK ((k, l) :: L) M w0 (w.alloc (.cells o 68)) := by
 subst hk
 have hg : Below w.heap.size w (w.alloc (.cells o 68)) := (Below.refl _ _).alloc (Nat.le_refl _) _
 have h2 := h.go hg
 refine ⟨fun p hp => ?_, h2.2⟩
 rcases List.mem_cons.1 hp with rfl | hp
 ·exact RB.new w l o ho
 ·exact h2.1 p hp
theorem SK.add {L : List (Nat × List Rc)} {M : List (Option Addr × Nat × List Rc)} {w0 w w' : World} (h : SK L M w0 w) (hb : Below w.heap.size w w') {A : Option Addr} {c : Nat} {l : List Rc} (hr : RIn w' A c l) : SK L ((A, c, l) :: M) w0 w' := by
 have h2 := h.go hb
 refine ⟨h2.1, fun p hp => ?_, h2.2.2⟩
 rcases List.mem_cons.1 hp with rfl | hp
 ·exact hr
 ·exact h2.2.1 p hp
end Go.Proofs.YtngddecpfhlilaaGreat
namespace Go.Proofs.YtngddecpfhlilaaGreat
open Go.RowKit
theorem own_dn {w : World} {B e size n : Nat} {v : Value} {xs : List Value} (h : w.ownsRow B e size v n xs) (q : Nat) (o : Obj) : ((w.drewN q).alloc o).ownsRow B e size v n xs := (own_go h (below_drewN (Below.refl _ _) q)).alloc o
theorem news3 (W : World) (k : Nat) (hk : k = W.heap.size) (a b c : Value) (t : TypeId) : ∀ j u, [a, b, c][j]? = some u → (W.alloc (.cells #[a, b, c] t)).cell? ((⟨k, 0, none⟩ : Addr).add j) = some u := by
 subst hk
 exact World.news_of_block (cs := #[a, b, c]) (t := t) (fr := (0, 0)) (heap_alloc_new W _)
def JoinIs (L : List SlV) (t : SlV) (w0 w : World) (e : Ending) (w' : World) : Prop := ∃ v' L', e = .returned v' ∧ svS L' = joinS (svS L) t.s ∧ SW v' L' w0 w'
def Jy (p g o : Nat) (u v : SlV) (w0 w : World) : Prop := w.cell? ⟨p, 0, none⟩ = some (.int .i64 u.s.z0) ∧ w.cell? ⟨p, 1, none⟩ = some (.int .i64 u.s.z1) ∧ w.cell? ⟨p, 2, none⟩ = some (.slice u.A u.s.ar.length u.c) ∧ w.cell? ⟨g, o, none⟩ = some (.int .i64 v.s.z0) ∧ w.cell? ⟨g, o + 1, none⟩ = some (.int .i64 v.s.z1) ∧ w.cell? ⟨g, o + 2, none⟩ = some (.slice v.A v.s.ar.length v.c) ∧ p < w.heap.size ∧ g < w.heap.size ∧ Hid (Below w0.heap.size w0 w)
theorem Jy.go {p g o : Nat} {u v : SlV} {w0 w w' : World} (h : Jy p g o u v w0 w) (hb : Below w.heap.size w w') : Jy p g o u v w0 w' := by
 obtain ⟨h0, h1, h2, h3, h4, h5, h6, h7, h8⟩ := h
 have cp := fun i => hb.cell (p := ⟨p, i, none⟩) h6
 have cb := fun i => hb.cell (p := ⟨g, i, none⟩) h7
 exact ⟨(cp _).trans h0, (cp _).trans h1, (cp _).trans h2, (cb _).trans h3, (cb _).trans h4, (cb _).trans h5, Nat.lt_of_lt_of_le h6 hb.size, Nat.lt_of_lt_of_le h7 hb.size, Lib.hid (h8.out.trans (hb.mono h8.out.size))⟩
theorem Jy.drewN {p g o : Nat} {u v : SlV} {w0 w : World} (h : Jy p g o u v w0 w) (n : Nat) : Jy p g o u v w0 (w.drewN n) := h.go (below_drewN (Below.refl _ _) n)
set_option maxHeartbeats 40000000 in
theorem bjoin_any (L : List SlV) (v : Value) (t : SlV) (w0 w : World) (h : SW v L w0 w) (ht : w.ownsRow w0.heap.size 68 4 (.slice t.A t.s.ar.length t.c) t.s.ar.length (rcells t.s.ar)) (hL : L.length ≤ 80) (hla : ∀ u ∈ L, u.s.ar.length ≤ 200) (hta : t.s.ar.length ≤ 200) :
  Calls Tryz.prog 141 #[v, .agg #[.int .i64 t.s.z0, .int .i64 t.s.z1, .slice t.A t.s.ar.length t.c]] w (JoinIs L t w0 w) := by
 have HSA := Lib.hid (SlAt.new w t.s t.A t.c t.s.ar.length rfl)
 have hal : Below w.heap.size w (w.alloc (.cells #[.int .i64 t.s.z0, .int .i64 t.s.z1, .slice t.A t.s.ar.length t.c] 153)) := (Below.refl _ _).alloc (Nat.le_refl _) _
 have HAL := Lib.hid hal
 have HW := Lib.hid (h.go hal)
 have HT := Lib.hid (own_go ht hal)
 have hbs := h.bel.size
 obtain ⟨i0, hi9, hz0, hz1, hz2⟩ := info_parts infoSlab
 by_cases h0 : t.s.ar = []
 ·have e0 : t.s.ar.length = 0 := by rw [h0]; rfl
  have FIN : Hid (JoinIs L t w0 w (.returned v) (w.alloc (.cells #[.int .i64 t.s.z0, .int .i64 t.s.z1, .slice t.A t.s.ar.length t.c] 153))) := Lib.hid ⟨v, L, rfl, (join_none h0).symm, HW.out⟩
  rw [e0] at FIN ⊢
  clear HSA hal HAL HW HT h ht hi9 hz0 hz1 hz2 h0 hla hta e0
  go_enter Tryz.func141, Tryz.ntmps141
  go_wp2_with fail
  go_ret
  exact FIN.out
 ·have z1 : ((t.s.ar.length : Int) == 0) = false := by simp; exact h0
  have H0 := Lib.hid h0
  clear hal
  rcases List.eq_nil_or_concat L with hL0 | ⟨G, p, hGp⟩
  ·subst hL0
   obtain ⟨A, cap, rfl, _, _, _⟩ := h.cells
   have HOWN := Lib.hid HW.out.own
   clear h ht hla
   have FIN : Hid (∀ w1 v' w', Below (w.alloc (.cells #[.int .i64 t.s.z0, .int .i64 t.s.z1, .slice t.A t.s.ar.length t.c] 153)).heap.size (w.alloc (.cells #[.int .i64 t.s.z0, .int .i64 t.s.z1, .slice t.A t.s.ar.length t.c] 153)) w1 → w'.ownsRow w0.heap.size 153 3 v' (0 + 1) (svcells [] ++ svc t) → w1.grownBy w' (Value.ownBlock (.slice A 0 cap)) → JoinIs [] t w0 w (.returned v') w') := Lib.hid (fun w1 v' w' hb ho hg => ⟨v', [] ++ [t], rfl, (by simp only [svS, List.nil_append, List.map_cons, List.map_nil]; exact (join_first H0.out).symm), (HW.out.go hb).app (own_go HT.out hb) ho hg⟩)
   have hsa := HSA.out
   have y0 := fun q => (below_drewN (Below.refl (w.alloc (.cells #[.int .i64 t.s.z0, .int .i64 t.s.z1, .slice t.A t.s.ar.length t.c] 153)).heap.size (w.alloc (.cells #[.int .i64 t.s.z0, .int .i64 t.s.z1, .slice t.A t.s.ar.length t.c] 153))) q).cell (p := ⟨w.heap.size, 0, none⟩) hsa.lt |>.trans hsa.c0
   have y1 := fun q => (below_drewN (Below.refl (w.alloc (.cells #[.int .i64 t.s.z0, .int .i64 t.s.z1, .slice t.A t.s.ar.length t.c] 153)).heap.size (w.alloc (.cells #[.int .i64 t.s.z0, .int .i64 t.s.z1, .slice t.A t.s.ar.length t.c] 153))) q).cell (p := ⟨w.heap.size, 1, none⟩) hsa.lt |>.trans hsa.c1
   have y2 := fun q => (below_drewN (Below.refl (w.alloc (.cells #[.int .i64 t.s.z0, .int .i64 t.s.z1, .slice t.A t.s.ar.length t.c] 153)).heap.size (w.alloc (.cells #[.int .i64 t.s.z0, .int .i64 t.s.z1, .slice t.A t.s.ar.length t.c] 153))) q).cell (p := ⟨w.heap.size, 2, none⟩) hsa.lt |>.trans hsa.c2
   have yl := hsa.lt
   clear hsa
   show Calls Tryz.prog 141 #[.slice A 0 cap, .agg #[.int .i64 t.s.z0, .int .i64 t.s.z1, .slice t.A t.s.ar.length t.c]] w (JoinIs [] t w0 w)
   go_enter Tryz.func141, Tryz.ntmps141
   go_wp2_with fail
   go_quiet (fail)
   go_wp2_with (at_builtin; refine wpList_append_own _ rfl _ _ 64 rfl w0.heap.size 153 i0 (.agg #[.int .i64 0, .int .i64 0, .slice none 0 0]) 3 40 Tryz.underlying64 hi9 hz0 hz1 hz2 rfl (by decide) _ _ _ rfl (own_dn HOWN.out _ _) ⟨w.heap.size + 1, 0, none⟩ 1 1 [.int .i64 t.s.z0, .int .i64 t.s.z1, .slice t.A t.s.ar.length t.c] rfl rfl ?c1 ?c2 ?c3 ?c4 ?c5 ?_)
   case c1 => exact news3 _ _ (by simp) _ _ _ _
   case c2 => intro u hu; simp only [List.mem_cons, List.not_mem_nil, or_false] at hu; rcases hu with rfl | rfl | rfl <;> rfl
   case c3 => unfold maxLen; omega
   case c4 => omega
   case c5 => simp; omega
   intro v' w4 hown' hgr _
   have FX := Lib.hid (FIN.out _ v' w4 ((below_drewN (Below.refl _ _) _).alloc (by simp) _) hown' hgr)
   clear hown' hgr
   go_wp2_with fail
   go_ret
   exact FX.out
  ·rw [List.concat_eq_append] at hGp
   subst hGp
   obtain ⟨A, cap, rfl, _, _, hA⟩ := HW.out.cells
   obtain ⟨g, rfl, hg0, hg1, hgc⟩ := hA (by simp)
   obtain ⟨q0, q1, q2⟩ := hgc G.length (by simp)
   have ep : (G ++ [p])[G.length]'(by simp) = p := by simp
   rw [ep] at q0 q1 q2
   have hsa := HSA.out
   have E0 : Hid (Jy w.heap.size g (G.length * 3) t p (w.alloc (.cells #[.int .i64 t.s.z0, .int .i64 t.s.z1, .slice t.A t.s.ar.length t.c] 153)) (w.alloc (.cells #[.int .i64 t.s.z0, .int .i64 t.s.z1, .slice t.A t.s.ar.length t.c] 153))) := Lib.hid ⟨hsa.c0, hsa.c1, hsa.c2, q0, q1, q2, hsa.lt, hg1, Lib.hid (Below.refl _ _)⟩
   have HLEN : Hid ((G ++ [p]).length = G.length + 1) := Lib.hid (by simp)
   have hGl : G.length ≤ 79 := by have := HLEN.out; omega
   have HPR := Lib.hid (own_rin (HW.out.ar p (by simp)) (by have := hla p (by simp); omega))
   have HTR := Lib.hid (own_rin HT.out (by omega))
   have HPL := Lib.hid (hla p (by simp))
   have HTL := Lib.hid hta
   have r1 : IntKind.i64.wrap (G.length : Int) = (G.length : Int) := IntWalk.i64_in _ (by omega)
   have m0 : (0 : Int) ≤ (G.length : Int) := by omega
   have m1 : (G.length : Int) < (G.length : Int) + 1 := by omega
   have HMN : Hid (∀ u ∈ G ++ [p], True) := Lib.hid (fun _ _ => trivial)
   rw [HLEN.out]
   clear h ht hla hta hgc ep hsa hL q0 q1 q2
   by_cases ce : p.s.z1 = t.s.z0 ∧ p.s.ar = t.s.ar
   ·have dc : decide (p.s.z1 = t.s.z0 ∧ p.s.ar = t.s.ar) = true := decide_eq_true ce
    have HCO : Hid (∀ w', Jy w.heap.size g (G.length * 3) t p (w.alloc (.cells #[.int .i64 t.s.z0, .int .i64 t.s.z1, .slice t.A t.s.ar.length t.c] 153)) w' → Calls Tryz.prog 144 #[.agg #[.int .i64 p.s.z0, .int .i64 p.s.z1, .slice p.A p.s.ar.length p.c], .agg #[.int .i64 t.s.z0, .int .i64 t.s.z1, .slice t.A t.s.ar.length t.c]] w' (BlIs true w')) := Lib.hid (fun w' hj => by
     have hb := hj.2.2.2.2.2.2.2.2.out
     have := bcont_any p.s.z0 p.s.z1 t.s.z0 t.s.z1 p.A p.c t.A t.c p.s.ar t.s.ar w' (HPR.out.below hb).row (HTR.out.below hb).row (by have := HPL.out; omega) (by have := HTL.out; omega)
     rw [dc] at this; exact this)
    have FIN : Hid (∀ w', Below (w.alloc (.cells #[.int .i64 t.s.z0, .int .i64 t.s.z1, .slice t.A t.s.ar.length t.c] 153)).heap.size (w.alloc (.cells #[.int .i64 t.s.z0, .int .i64 t.s.z1, .slice t.A t.s.ar.length t.c] 153)) w' → JoinIs (G ++ [p]) t w0 w (.returned (.slice (some ⟨g, 0, none⟩) (G.length + 1) cap)) (w'.setCell ⟨g, G.length * 3 + 1, none⟩ (.int .i64 t.s.z1))) := Lib.hid (fun w' hb => ⟨_, G ++ [⟨⟨p.s.z0, t.s.z1, p.s.ar⟩, p.A, p.c⟩], rfl, (by
     rw [svS_append, svS_append]
     exact (join_wide H0.out ce.1 ce.2).symm), (by
     have hw := HW.out.go hb
     rw [HLEN.out] at hw
     exact hw.setz rfl _)⟩)
    have HFZ : Hid (∀ w', Below (w.alloc (.cells #[.int .i64 t.s.z0, .int .i64 t.s.z1, .slice t.A t.s.ar.length t.c] 153)).heap.size (w.alloc (.cells #[.int .i64 t.s.z0, .int .i64 t.s.z1, .slice t.A t.s.ar.length t.c] 153)) w' → w'.frozen? ⟨g, G.length * 3 + 1, none⟩ = false) := Lib.hid (fun w' hb => (HW.out.go hb).own.frozenAt _)
    clear dc ce HPR HTR HPL HTL HT HW HMN
    obtain ⟨m, hm⟩ : ∃ m, m = G.length := ⟨_, rfl⟩
    rw [← hm] at E0 HCO FIN HFZ r1 m0 m1 hGl ⊢
    clear hm HLEN
    go_enter Tryz.func141, Tryz.ntmps141
    go_wp2_with fail
    go_region_held3 (fun w' => w'.cell? ⟨w.heap.size, 0, none⟩ = some (.int .i64 t.s.z0) ∧ w'.cell? ⟨w.heap.size, 1, none⟩ = some (.int .i64 t.s.z1) ∧ w'.cell? ⟨w.heap.size, 2, none⟩ = some (.slice t.A t.s.ar.length t.c) ∧ w'.cell? ⟨g, m * 3, none⟩ = some (.int .i64 p.s.z0) ∧ w'.cell? ⟨g, m * 3 + 1, none⟩ = some (.int .i64 p.s.z1) ∧ w'.cell? ⟨g, m * 3 + 2, none⟩ = some (.slice p.A p.s.ar.length p.c) ∧ w.heap.size < w'.heap.size ∧ g < w'.heap.size ∧ Hid (Below (w.alloc (.cells #[.int .i64 t.s.z0, .int .i64 t.s.z1, .slice t.A t.s.ar.length t.c] 153)).heap.size (w.alloc (.cells #[.int .i64 t.s.z0, .int .i64 t.s.z1, .slice t.A t.s.ar.length t.c] 153)) w'))
     (first | exact E0.out | exact Jy.drewN E0.out 1 | exact Jy.go ‹_› ‹_› | assumption)
     (first | (go_at_call 144; refine (HCO.out _ ?_).mono ?_; (first | assumption | exact Jy.drewN E0.out 1); rintro e w' ⟨rfl, hb⟩) | fail)
    have E2 : Jy w.heap.size g (m * 3) t p (w.alloc (.cells #[.int .i64 t.s.z0, .int .i64 t.s.z1, .slice t.A t.s.ar.length t.c] 153)) w' := by assumption
    have FX := Lib.hid (FIN.out _ E2.2.2.2.2.2.2.2.2.out)
    have f0 := HFZ.out _ E2.2.2.2.2.2.2.2.2.out
    have y1 := E2.2.1; have q1 := E2.2.2.2.2.1; have yl := E2.2.2.2.2.2.2.1; have ql := E2.2.2.2.2.2.2.2.1
    clear E0 E2 FIN HFZ HCO
    go_wp2_with fail
    go_ret
    exact FX.out
   ·have dc : decide (p.s.z1 = t.s.z0 ∧ p.s.ar = t.s.ar) = false := decide_eq_false ce
    have HCO : Hid (∀ w', Jy w.heap.size g (G.length * 3) t p (w.alloc (.cells #[.int .i64 t.s.z0, .int .i64 t.s.z1, .slice t.A t.s.ar.length t.c] 153)) w' → Calls Tryz.prog 144 #[.agg #[.int .i64 p.s.z0, .int .i64 p.s.z1, .slice p.A p.s.ar.length p.c], .agg #[.int .i64 t.s.z0, .int .i64 t.s.z1, .slice t.A t.s.ar.length t.c]] w' (BlIs false w')) := Lib.hid (fun w' hj => by
     have hb := hj.2.2.2.2.2.2.2.2.out
     have := bcont_any p.s.z0 p.s.z1 t.s.z0 t.s.z1 p.A p.c t.A t.c p.s.ar t.s.ar w' (HPR.out.below hb).row (HTR.out.below hb).row (by have := HPL.out; omega) (by have := HTL.out; omega)
     rw [dc] at this; exact this)
    have FIN : Hid (∀ w1 v' w', Below (w.alloc (.cells #[.int .i64 t.s.z0, .int .i64 t.s.z1, .slice t.A t.s.ar.length t.c] 153)).heap.size (w.alloc (.cells #[.int .i64 t.s.z0, .int .i64 t.s.z1, .slice t.A t.s.ar.length t.c] 153)) w1 → w'.ownsRow w0.heap.size 153 3 v' (G.length + 1 + 1) (svcells (G ++ [p]) ++ svc t) → w1.grownBy w' (Value.ownBlock (.slice (some ⟨g, 0, none⟩) (G.length + 1) cap)) → JoinIs (G ++ [p]) t w0 w (.returned v') w') := Lib.hid (fun w1 v' w' hb ho hg => ⟨v', (G ++ [p]) ++ [t], rfl, (by
     rw [svS_append, svS_append]
     exact (join_new H0.out ce).symm), (HW.out.go hb).app (own_go HT.out hb) (by rw [HLEN.out]; exact ho) (by rw [HLEN.out] ; exact hg)⟩)
    have HOWN : Hid (∀ w', Below (w.alloc (.cells #[.int .i64 t.s.z0, .int .i64 t.s.z1, .slice t.A t.s.ar.length t.c] 153)).heap.size (w.alloc (.cells #[.int .i64 t.s.z0, .int .i64 t.s.z1, .slice t.A t.s.ar.length t.c] 153)) w' → w'.ownsRow w0.heap.size 153 3 (.slice (some ⟨g, 0, none⟩) (G.length + 1) cap) (G.length + 1) (svcells (G ++ [p]))) := Lib.hid (fun w' hb => by
     have := (HW.out.go hb).own
     rw [HLEN.out] at this; exact this)
    clear dc ce HPR HTR HPL HTL HT HW HMN
    obtain ⟨C, hC⟩ : ∃ C, C = svcells (G ++ [p]) := ⟨_, rfl⟩
    rw [← hC] at FIN HOWN
    clear hC
    obtain ⟨m, hm⟩ : ∃ m, m = G.length := ⟨_, rfl⟩
    rw [← hm] at E0 HCO FIN HOWN r1 m0 m1 hGl ⊢
    clear hm HLEN
    go_enter Tryz.func141, Tryz.ntmps141
    go_wp2_with fail
    go_region_held3 (fun w' => w'.cell? ⟨w.heap.size, 0, none⟩ = some (.int .i64 t.s.z0) ∧ w'.cell? ⟨w.heap.size, 1, none⟩ = some (.int .i64 t.s.z1) ∧ w'.cell? ⟨w.heap.size, 2, none⟩ = some (.slice t.A t.s.ar.length t.c) ∧ w'.cell? ⟨g, m * 3, none⟩ = some (.int .i64 p.s.z0) ∧ w'.cell? ⟨g, m * 3 + 1, none⟩ = some (.int .i64 p.s.z1) ∧ w'.cell? ⟨g, m * 3 + 2, none⟩ = some (.slice p.A p.s.ar.length p.c) ∧ w.heap.size < w'.heap.size ∧ g < w'.heap.size ∧ Hid (Below (w.alloc (.cells #[.int .i64 t.s.z0, .int .i64 t.s.z1, .slice t.A t.s.ar.length t.c] 153)).heap.size (w.alloc (.cells #[.int .i64 t.s.z0, .int .i64 t.s.z1, .slice t.A t.s.ar.length t.c] 153)) w'))
     (first | exact E0.out | exact Jy.drewN E0.out 1 | exact Jy.go ‹_› ‹_› | assumption)
     (first | (go_at_call 144; refine (HCO.out _ ?_).mono ?_; (first | assumption | exact Jy.drewN E0.out 1); rintro e w' ⟨rfl, hb⟩) | fail)
    have E2 : Jy w.heap.size g (m * 3) t p (w.alloc (.cells #[.int .i64 t.s.z0, .int .i64 t.s.z1, .slice t.A t.s.ar.length t.c] 153)) w' := by assumption
    have HBX := E2.2.2.2.2.2.2.2.2
    have HOX := Lib.hid (HOWN.out _ HBX.out)
    have y0 := E2.1; have y1 := E2.2.1; have y2 := E2.2.2.1; have yl := E2.2.2.2.2.2.2.1
    have hbz := HBX.out.size
    have hbz2 : w0.heap.size ≤ w'.heap.size := by simp at hbz; omega
    clear E0 E2 HCO HOWN hbz
    go_wp2_with (at_builtin; refine wpList_append_own _ rfl _ _ 64 rfl w0.heap.size 153 i0 (.agg #[.int .i64 0, .int .i64 0, .slice none 0 0]) 3 40 Tryz.underlying64 hi9 hz0 hz1 hz2 rfl (by decide) _ _ _ rfl (HOX.out.alloc _) ⟨w'.heap.size, 0, none⟩ 1 1 [.int .i64 t.s.z0, .int .i64 t.s.z1, .slice t.A t.s.ar.length t.c] rfl rfl ?d1 ?d2 ?d3 ?d4 ?d5 ?_)
    case d1 =>
     intro j u hj
     match j, hj with
     | 0, hj => simp at hj; subst hj; simp [Addr.add]
     | 1, hj => simp at hj; subst hj; simp [Addr.add]
     | 2, hj => simp at hj; subst hj; simp [Addr.add]
    case d2 => intro u hu; simp only [List.mem_cons, List.not_mem_nil, or_false] at hu; rcases hu with rfl | rfl | rfl <;> rfl
    case d3 => unfold maxLen; omega
    case d4 => omega
    case d5 => simp; omega
    intro v' w4 hown' hgr _
    have FX := Lib.hid (FIN.out _ v' w4 (HBX.out.alloc HBX.out.size _) hown' hgr)
    clear hown' hgr FIN
    go_wp2_with fail
    go_ret
    exact FX.out
end Go.Proofs.YtngddecpfhlilaaGreat
