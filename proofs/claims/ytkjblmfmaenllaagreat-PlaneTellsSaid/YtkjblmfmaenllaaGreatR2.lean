/-
  Contracts of the program's layer 10, 9: First.
-/
import Derived.Test.YtkjblmfmaenllaaGreatR1
import Derived.Test.YtkjblmfmaenllaaGreatW3
set_option linter.unusedVariables false
set_option maxRecDepth 100000
namespace Go.Proofs.YtkjblmfmaenllaaGreat
open Go.RowKit

def F7 (sb rb : Nat) (u : Sl) (Aj : Option Addr) (cj : Nat) (r : Rc) (W w' : World) : Prop := w'.cell? ⟨sb, 0, none⟩ = some (.int .i64 u.z0) ∧ w'.cell? ⟨sb, 1, none⟩ = some (.int .i64 u.z1) ∧ w'.cell? ⟨sb, 2, none⟩ = some (.slice Aj u.ar.length cj) ∧ w'.cell? ⟨rb, 0, none⟩ = some (.int .i64 r.X0) ∧ w'.cell? ⟨rb, 1, none⟩ = some (.int .i64 r.Y0) ∧ w'.cell? ⟨rb, 2, none⟩ = some (.int .i64 r.X1) ∧ w'.cell? ⟨rb, 3, none⟩ = some (.int .i64 r.Y1) ∧ sb < w'.heap.size ∧ rb < w'.heap.size ∧ Hid (Below W.heap.size W w')
theorem F7.go {sb rb : Nat} {u : Sl} {Aj : Option Addr} {cj : Nat} {r : Rc} {W w w' : World} (h : F7 sb rb u Aj cj r W w) (hb : Below w.heap.size w w') : F7 sb rb u Aj cj r W w' := by
  obtain ⟨s0, s1, s2, c0, c1, c2, c3, l1, l2, h5⟩ := h
  have wc := fun o => hb.cell (p := ⟨sb, o, none⟩) l1
  have wd := fun o => hb.cell (p := ⟨rb, o, none⟩) l2
  exact ⟨(wc _).trans s0, (wc _).trans s1, (wc _).trans s2, (wd _).trans c0, (wd _).trans c1, (wd _).trans c2, (wd _).trans c3, Nat.lt_of_lt_of_le l1 hb.size, Nat.lt_of_lt_of_le l2 hb.size, Lib.hid (h5.out.trans (hb.mono h5.out.size))⟩
theorem F7.drewN {sb rb : Nat} {u : Sl} {Aj : Option Addr} {cj : Nat} {r : Rc} {W w : World} (h : F7 sb rb u Aj cj r W w) (n : Nat) : F7 sb rb u Aj cj r W (w.drewN n) := h.go (below_drewN (Below.refl _ _) n)
theorem F7.bel {sb rb : Nat} {u : Sl} {Aj : Option Addr} {cj : Nat} {r : Rc} {W w : World} (h : F7 sb rb u Aj cj r W w) : Below W.heap.size W w := h.2.2.2.2.2.2.2.2.2.out
theorem F7.base {sb rb : Nat} {u : Sl} {Aj : Option Addr} {cj : Nat} {r : Rc} {W w : World} (h : F7 sb rb u Aj cj r W w) : Hid (Below W.heap.size W w) := h.2.2.2.2.2.2.2.2.2
theorem F7.sbl {sb rb : Nat} {u : Sl} {Aj : Option Addr} {cj : Nat} {r : Rc} {W w : World} (h : F7 sb rb u Aj cj r W w) : sb < w.heap.size := h.2.2.2.2.2.2.2.1
theorem F7.set {sb rb g i : Nat} {u : Sl} {Aj : Option Addr} {cj : Nat} {r : Rc} {W w : World} {v : Value} (h : F7 sb rb u Aj cj r W w) (h1 : sb ≠ g) (h2 : rb ≠ g) (hg : W.heap.size ≤ g) : F7 sb rb u Aj cj r W (w.setCell ⟨g, i, none⟩ v) := by
  obtain ⟨s0, s1, s2, c0, c1, c2, c3, l1, l2, h5⟩ := h
  have wc := fun o => World.cell?_setCell_far w ⟨g, i, none⟩ ⟨sb, o, none⟩ v h1.symm
  have wd := fun o => World.cell?_setCell_far w ⟨g, i, none⟩ ⟨rb, o, none⟩ v h2.symm
  exact ⟨(wc _).trans s0, (wc _).trans s1, (wc _).trans s2, (wd _).trans c0, (wd _).trans c1, (wd _).trans c2, (wd _).trans c3, by simp; exact l1, by simp; exact l2, Lib.hid (h5.out.setCell hg _)⟩
/-- a cube in a block of its own. -/
def P3At (w : World) (g : Nat) (p : P3) : Prop := w.heap[g]? = some (.cells #[.int .i64 p.x, .int .i64 p.y, .int .i64 p.z] 37 (0, 0))
section
variable {w w' : World} {g : Nat} {p : P3}
theorem P3At.lt (h : P3At w g p) : g < w.heap.size := (Array.getElem?_eq_some_iff.1 h).1
theorem P3At.c0 (h : P3At w g p) : w.cell? ⟨g, 0, none⟩ = some (.int .i64 p.x) := by rw [Lib.cell_of_heap h]; rfl
theorem P3At.c1 (h : P3At w g p) : w.cell? ⟨g, 1, none⟩ = some (.int .i64 p.y) := by rw [Lib.cell_of_heap h]; rfl
theorem P3At.c2 (h : P3At w g p) : w.cell? ⟨g, 2, none⟩ = some (.int .i64 p.z) := by rw [Lib.cell_of_heap h]; rfl
theorem P3At.froz (h : P3At w g p) (i : Nat) : w.frozen? ⟨g, i, none⟩ = false := Lib.frozen_of_heap h i
theorem P3At.below (h : P3At w g p) (hg : Below w.heap.size w w') : P3At w' g p := (hg.block g h.lt).trans h
theorem P3At.new (w : World) (p : P3) (k : Nat) (h : k = w.heap.size) : P3At (w.alloc (.cells #[.int .i64 p.x, .int .i64 p.y, .int .i64 p.z] 37)) k p := by subst h; exact heap_alloc_new w _
end
/-- what First tells. -/
def FC (r : Rc) (l : List Pl) (S : List Sl) (x : P3 × Bool) : Prop := (ArgOk r l ∧ SolP S → FstP r l S x) ∧ (¬ (ArgOk r l ∧ SolP S) → x = (z3, false))
/-- the first cube, and whether there is one. -/
def FIs (r : Rc) (l : List Pl) (S : List Sl) (w : World) (e : Ending) (w' : World) : Prop := ∃ x : P3 × Bool, e = .returned (.tuple #[.agg #[.int .i64 x.1.x, .int .i64 x.1.y, .int .i64 x.1.z], .bool x.2]) ∧ FC r l S x ∧ Below w.heap.size w w'
theorem slab_at {w : World} {A : Option Addr} {S : List Sl} (h : SlRow w A S) (h0 : 0 < S.length) : ∃ b off, A = some ⟨b, off, none⟩ ∧ b < w.heap.size ∧ ∀ j (h : j < S.length), w.cell? ⟨b, off + j * 3, none⟩ = some (.int .i64 S[j].z0) ∧ w.cell? ⟨b, off + j * 3 + 1, none⟩ = some (.int .i64 S[j].z1) ∧ ∃ Aj cj, w.cell? ⟨b, off + j * 3 + 2, none⟩ = some (.slice Aj S[j].ar.length cj) ∧ RIn w Aj cj S[j].ar := h h0
set_option maxHeartbeats 40000000 in
theorem kFirst_any (r : Rc) (A : Option Addr) (cap : Nat) (l : List Pl) (A2 : Option Addr) (c2 : Nat) (S : List Sl) (w : World) (hl : PlIn w A cap l) (hs : SIn w A2 c2 S) :
    Calls Tryz.prog 14 #[.agg #[.int .i64 r.X0, .int .i64 r.Y0, .int .i64 r.X1, .int .i64 r.Y1], .slice A l.length cap, .slice A2 S.length c2] w (FIs r l S w) := by
  obtain ⟨W0, hW0⟩ : ∃ W0, W0 = w.alloc (.cells #[.int .i64 r.X0, .int .i64 r.Y0, .int .i64 r.X1, .int .i64 r.Y1] 33) := ⟨_, rfl⟩
  obtain ⟨W, hW⟩ : ∃ W, W = W0.alloc (.cells #[.int .i64 0, .int .i64 0, .int .i64 0] 37) := ⟨_, rfl⟩
  have b0 : Below w.heap.size w W0 := by rw [hW0]; exact (Below.refl _ _).alloc (Nat.le_refl _) _
  have bW : Below W0.heap.size W0 W := by rw [hW]; exact (Below.refl _ _).alloc (Nat.le_refl _) _
  have e0 : W0.heap.size = w.heap.size + 1 := by rw [hW0]; simp
  have HWW := Lib.hid (b0.trans (bW.mono b0.size))
  have k0 : RcAt W0 w.heap.size r := by rw [hW0]; exact RcAt.new w r _ rfl
  have KR := Lib.hid (k0.below bW k0.lt)
  have HP3 : Hid (P3At W (w.heap.size + 1) z3) := Lib.hid (by rw [hW, ← e0]; exact P3At.new W0 z3 _ rfl)
  have HG6 : Hid (W.heap.size = w.heap.size + 1 + 1) := Lib.hid (by rw [hW]; simp [e0])
  have HPL := Lib.hid (hl.below HWW.out)
  have HSL := Lib.hid (hs.below HWW.out)
  have HAR := Lib.hid (fun w' (h : Below W.heap.size W w') => kareR_any r A cap l w' (HPL.out.below h))
  have x0 := KR.out.cell0; have x1 := KR.out.cell1; have x2 := KR.out.cell2; have x3 := KR.out.cell3; have xl := KR.out.lt
  clear b0 bW e0 k0 hl hs
  by_cases ca : ArgOk r l
  · rw [decide_eq_true ca] at HAR
    have HA := Lib.hid ca
    by_cases cs : SolP S
    · have HBR := Lib.hid (fun w' (h : Below W.heap.size W w') => bright_yes (HSL.out.below h) cs)
      have HS := Lib.hid cs
      have HFI : Hid (∀ x, FstP r l S x → FC r l S x) := Lib.hid (fun x h => ⟨fun _ => h, fun hn => absurd ⟨ca, cs⟩ hn⟩)
      clear ca cs
      go_enter Tryz.func14, Tryz.ntmps14
      go_wp2_with fail
      rw [← hW0, ← hW]
      clear hW0 hW
      refine (HAR.out _ (Below.refl _ _)).mono ?_
      rintro e w1 ⟨rfl, hb⟩
      have B1 := Lib.hid hb; clear hb HAR x0 x1 x2 x3 xl
      go_wp2_with fail
      refine (HBR.out _ B1.out).mono ?_
      rintro e w2 ⟨rfl, hb⟩
      have B2 := Lib.hid (B1.out.trans (hb.mono B1.out.size)); clear hb HBR B1
      go_wp2_with fail
      go_loopw [24] (fun i wr => ∃ (k : Nat), k ≤ S.length ∧ i = .int .i64 k ∧ Hid (Below W.heap.size W wr) ∧ Hid (Dn10 r l S k)) (fun i _ => S.length - (intOf i).toNat)
      case atStart => exact ⟨0, Nat.zero_le _, rfl, B2, Lib.hid (Dn10.zero r l S)⟩
      case round =>
        clear B2
        obtain ⟨k, hk, rfl, HB, HD⟩ := hrel
        by_cases hlt : k < S.length
        · obtain ⟨b1, o1, hA2, hb1, hv1⟩ := slab_at HSL.out.row (by omega)
          subst hA2
          obtain ⟨y0, y1, Aj, cj, y2, hrj⟩ := hv1 k hlt
          have hok := HS.out.form.each _ (List.getElem_mem hlt)
          have hrg : RegP S[k].ar := ⟨hok.form, HS.out.rects _ (List.getElem_mem hlt)⟩
          have HST : Hid (¬ max S[k].z0 (lowS r l S[k].ar) < S[k].z1 → Dn10 r l S (k + 1)) := Lib.hid (fun hz => HD.out.step HA.out.2 HS.out.form hlt hz)
          have HFO : Hid (∀ zz x y, zz = max S[k].z0 (lowS r l S[k].ar) → zz < S[k].z1 → OutC S[k].ar (roomS r l (zz + 1)) x y → FstP r l S (⟨x, y, zz⟩, true)) := Lib.hid (fun zz x y h1 h2 h3 => HD.out.found HA.out.1 HA.out.2 HS.out.form hlt h1 h2 h3)
          obtain ⟨u, hu⟩ : ∃ u, u = S[k] := ⟨_, rfl⟩
          rw [← hu] at y0 y1 y2 hok hrg hrj HST HFO
          clear hu hv1
          have wc := fun o => HB.out.cell (p := ⟨b1, o, none⟩) hb1
          have y0 := (wc _).trans y0; have y1 := (wc _).trans y1; have y2 := (wc _).trans y2
          have hbw : b1 < wr.heap.size := Nat.lt_of_lt_of_le hb1 HB.out.size
          clear wc
          have n0 : (0 : Int) ≤ (k : Int) := by omega
          have n1 : (k : Int) < (S.length : Int) := by omega
          have hlen := HSL.out.len
          have HOK := Lib.hid hok; have HRG := Lib.hid hrg; have HRJ := Lib.hid hrj
          have HLW := Lib.hid (fun w' (h : Below W.heap.size W w') => klow_any r A cap l Aj cj u.ar w' (HPL.out.below h) HA.out (HRJ.out.below h) HRG.out HOK.out.ne)
          obtain ⟨lw, hlw⟩ : ∃ lw, lw = lowS r l u.ar := ⟨_, rfl⟩
          rw [← hlw] at HLW HST HFO
          have HLE := Lib.hid hlw
          clear hok hrg hrj hlw
          obtain ⟨zz, hzz⟩ : ∃ zz, max u.z0 lw = zz := ⟨_, rfl⟩
          rw [hzz] at HST HFO
          have HZZ := Lib.hid hzz
          have ba : Below wr.heap.size wr (wr.alloc (.cells #[.int .i64 u.z0, .int .i64 u.z1, .slice Aj u.ar.length cj] 56)) := (Below.refl _ _).alloc (Nat.le_refl _) _
          have sa : SlAt (wr.alloc (.cells #[.int .i64 u.z0, .int .i64 u.z1, .slice Aj u.ar.length cj] 56)) wr.heap.size u Aj cj := heap_alloc_new wr _
          have bb := HB.out.trans (ba.mono HB.out.size)
          have kr := KR.out.below bb KR.out.lt
          have E3 : Hid (F7 wr.heap.size w.heap.size u Aj cj r W (wr.alloc (.cells #[.int .i64 u.z0, .int .i64 u.z1, .slice Aj u.ar.length cj] 56))) := Lib.hid ⟨sa.c0, sa.c1, sa.c2, kr.cell0, kr.cell1, kr.cell2, kr.cell3, sa.lt, kr.lt, Lib.hid bb⟩
          clear ba sa bb kr HB HD
          by_cases hz : zz < u.z1
          · have hzd : decide (zz < u.z1) = true := decide_eq_true hz
            have zin : 0 ≤ zz ∧ zz < 4096 := by have h1 := HOK.out.h.1; have h2 := HOK.out.h.2.2; have h3 := HZZ.out; omega
            have HKR : Hid (∀ w', Below W.heap.size W w' → Calls Tryz.prog 63 #[.agg #[.int .i64 r.X0, .int .i64 r.Y0, .int .i64 r.X1, .int .i64 r.Y1], .slice A l.length cap, .int .i64 (zz + 1)] w' fun e w'' => ∃ A7, e = .returned (.slice A7 (roomS r l (zz + 1)).length (roomS r l (zz + 1)).length) ∧ RIn w'' A7 (roomS r l (zz + 1)).length (roomS r l (zz + 1)) ∧ Below w'.heap.size w' w'') := Lib.hid (fun w' h => (kroom_any r A cap l (zz + 1) w' (HPL.out.below h) HA.out (by omega) (by omega)).mono fun e w'' hh => by
              obtain ⟨A7, rfl, hr, hb⟩ := hh
              have := room_len r l (zz + 1)
              exact ⟨A7, rfl, ⟨hr, by omega, Nat.le_refl _, by omega⟩, hb⟩)
            have HKO : Hid (∀ w' A7, Below W.heap.size W w' → RIn w' A7 (roomS r l (zz + 1)).length (roomS r l (zz + 1)) → Calls Tryz.prog 62 #[.slice Aj u.ar.length cj, .slice A7 (roomS r l (zz + 1)).length (roomS r l (zz + 1)).length] w' (OutIs u.ar (roomS r l (zz + 1)) w')) := Lib.hid (fun w' A7 h h7 => kout_any Aj cj u.ar A7 _ (roomS r l (zz + 1)) w' (HRJ.out.below h) h7 (form_ok HRG.out.1) (room_ok r l (zz + 1)) (room_len r l (zz + 1)) (by have := HRG.out.2; omega) (out_some HA.out.1 HA.out.2 HOK.out (by rw [← HLE.out]; exact HZZ.out.symm) hz))
            have HYES : Hid (∀ x y, OutC u.ar (roomS r l (zz + 1)) x y → FC r l S (⟨x, y, zz⟩, true)) := Lib.hid (fun x y h => HFI.out _ (HFO.out zz x y rfl hz h))
            have q1 : IntKind.i64.wrap (zz + 1) = zz + 1 := IntWalk.i64_in _ (by omega)
            obtain ⟨zp, hzp⟩ : ∃ zp, zz + 1 = zp := ⟨_, rfl⟩
            rw [hzp] at HKR HKO HYES
            replace q1 := q1.trans hzp
            generalize roomS r l zp = F at *
            generalize F.length = nF at *
            clear hzp zin HST HFO HZZ HLE HOK HRG HRJ
            go_wp2_with fail
            generalize World.alloc wr _ = w3 at *
            generalize wr.heap.size = sb at *
            clear y0 y1 y2 hbw
            go_region_held3 (fun w' => w'.cell? ⟨sb, 0, none⟩ = some (.int .i64 u.z0) ∧ w'.cell? ⟨sb, 1, none⟩ = some (.int .i64 u.z1) ∧ w'.cell? ⟨sb, 2, none⟩ = some (.slice Aj u.ar.length cj) ∧ w'.cell? ⟨w.heap.size, 0, none⟩ = some (.int .i64 r.X0) ∧ w'.cell? ⟨w.heap.size, 1, none⟩ = some (.int .i64 r.Y0) ∧ w'.cell? ⟨w.heap.size, 2, none⟩ = some (.int .i64 r.X1) ∧ w'.cell? ⟨w.heap.size, 3, none⟩ = some (.int .i64 r.Y1) ∧ sb < w'.heap.size ∧ w.heap.size < w'.heap.size ∧ Hid (Below W.heap.size W w'))
              (first | exact E3.out | exact F7.drewN E3.out 1 | exact F7.go ‹_› ‹_› | assumption)
              (first | (go_at_call 61; (with_reducible refine Calls.mono (HLW.out _ ?_) ?_); (exact F7.bel (F7.drewN E3.out 1)); rintro e w4 ⟨rfl, hb⟩) | fail)
            have E4 : Hid (F7 sb w.heap.size u Aj cj r W w4) := Lib.hid (by assumption)
            have s1 := E4.out.2.1; have sl := E4.out.2.2.2.2.2.2.2.1
            clear E3 HLW
            go_wp2_with fail
            clear s1 sl
            refine wp_region_held_drew (S := fun w' => w'.cell? ⟨sb, 0, none⟩ = some (.int .i64 u.z0) ∧ w'.cell? ⟨sb, 1, none⟩ = some (.int .i64 u.z1) ∧ w'.cell? ⟨sb, 2, none⟩ = some (.slice Aj u.ar.length cj) ∧ w'.cell? ⟨w.heap.size, 0, none⟩ = some (.int .i64 r.X0) ∧ w'.cell? ⟨w.heap.size, 1, none⟩ = some (.int .i64 r.Y0) ∧ w'.cell? ⟨w.heap.size, 2, none⟩ = some (.int .i64 r.X1) ∧ w'.cell? ⟨w.heap.size, 3, none⟩ = some (.int .i64 r.Y1) ∧ sb < w'.heap.size ∧ w.heap.size < w'.heap.size ∧ Hid (Below W.heap.size W w')) (by kernel_rfl) ?_ (fun hHeld => ?_)
            · exact F7.drewN E4.out 1
            refine wpAnyH_take (i := 0) (oi := { dst := some 40, op := Go.Op.fieldAddr 56 (Go.Operand.tmp 9) 2, type := 0, pos := "plane.go:53", after := #[], guard := none }) (v := ?_) rfl (by kernel_rfl) (by kernel_rfl) (by kernel_rfl) (fun _ _ _ h => h) (Or.inl ⟨by rfl, ?_⟩) (by assumption) ?_
            rotate_left
            · (intro w hSw; (try dsimp only at hSw); go_simp); try with_reducible rfl
            try simp only [Act.put, List.setIfInBounds_toArray, List.set_cons_zero, List.set_cons_succ]
            refine wpAnyH_take (i := 1) (oi := { dst := some 41, op := Go.Op.load 40 (Go.Operand.tmp 40), type := 40, pos := "plane.go:53", after := #[{ on := 0, ground := Go.Ground.data }], guard := none }) (v := ?_) rfl (by kernel_rfl) (by kernel_rfl) (by kernel_rfl) (fun _ _ _ h => h) (Or.inl ⟨by rfl, ?_⟩) (by assumption) ?_
            rotate_left
            · (intro w hSw; (try dsimp only at hSw); go_simp); try with_reducible rfl
            try simp only [Act.put, List.setIfInBounds_toArray, List.set_cons_zero, List.set_cons_succ]
            refine wpAnyH_take (i := 2) (oi := { dst := some 42, op := Go.Op.load 33 (Go.Operand.tmp 3), type := 33, pos := "plane.go:53", after := #[], guard := none }) (v := ?_) rfl (by kernel_rfl) (by kernel_rfl) (by kernel_rfl) (fun _ _ _ h => h) (Or.inl ⟨by rfl, ?_⟩) (by assumption) ?_
            rotate_left
            · (intro w hSw; (try dsimp only at hSw); go_simp); try with_reducible rfl
            try simp only [Act.put, List.setIfInBounds_toArray, List.set_cons_zero, List.set_cons_succ]
            refine wpAnyH_take (i := 3) (oi := { dst := some 43, op := Go.Op.move (Go.Operand.tmp 1), type := 34, pos := "plane.go:53", after := #[], guard := none }) (v := ?_) rfl (by kernel_rfl) (by kernel_rfl) (by kernel_rfl) (fun _ _ _ h => h) (Or.inl ⟨by rfl, ?_⟩) (by assumption) ?_
            rotate_left
            · (intro w hSw; (try dsimp only at hSw); go_simp); try with_reducible rfl
            try simp only [Act.put, List.setIfInBounds_toArray, List.set_cons_zero, List.set_cons_succ]
            refine wpAnyH_take (i := 4) (oi := { dst := some 44, op := Go.Op.move (Go.Operand.tmp 10), type := 3, pos := "plane.go:53", after := #[], guard := none }) (v := ?_) rfl (by kernel_rfl) (by kernel_rfl) (by kernel_rfl) (fun _ _ _ h => h) (Or.inl ⟨by rfl, ?_⟩) (by assumption) ?_
            rotate_left
            · (intro w hSw; (try dsimp only at hSw); go_simp); try with_reducible rfl
            try simp only [Act.put, List.setIfInBounds_toArray, List.set_cons_zero, List.set_cons_succ]
            refine wpAnyH_take (i := 5) (oi := { dst := some 45, op := Go.Op.binOp Go.BinOp.add 3 (Go.Operand.tmp 44) (Go.Operand.const (Go.Value.int Go.IntKind.i64 1)) 3, type := 3, pos := "plane.go:53", after := #[{ on := 4, ground := Go.Ground.data }], guard := none }) (v := ?_) rfl (by kernel_rfl) (by kernel_rfl) (by kernel_rfl) (fun _ _ _ h => h) (Or.inl ⟨by rfl, ?_⟩) (by assumption) ?_
            rotate_left
            · (intro w hSw; (try dsimp only at hSw); go_simp); try with_reducible rfl
            try simp only [Act.put, List.setIfInBounds_toArray, List.set_cons_zero, List.set_cons_succ]
            refine wpAnyH_ready (rs := [6, 8]) (by kernel_rfl) (by simp) ?_
            refine AllReadyH.cons (o := { dst := some 46, op := Go.Op.call { callee := Go.Callee.value (Go.Operand.func 63), args := #[Go.Operand.tmp 42, Go.Operand.tmp 43, Go.Operand.tmp 45], argTypes := #[33, 34, 3] }, type := 40, pos := "plane.go:53", after := #[{ on := 2, ground := Go.Ground.data }, { on := 3, ground := Go.Ground.data }, { on := 5, ground := Go.Ground.data }], guard := none }) rfl (fun K hK => ?_) (AllReadyH.cons (o := { dst := some 11, op := Go.Op.alloc 79, type := 0, pos := "plane.go:53", after := #[], guard := none }) rfl (fun K hK => ?_) AllReadyH.nil)
            · go_simp
              go_at_call 63
              with_reducible refine Calls.mono (HKR.out _ ?_) ?_
              · exact F7.bel ‹_›
              rintro e w7 ⟨A7, rfl, hr7, hb⟩
              try go_wp2_with fail
              refine hK.out _ _ (F7.go ‹_› hb) (fun hHeld2 => ?_)
              clear hK K hHeld
              have hHeld := hHeld2; clear hHeld2
              try simp only [Act.put, List.setIfInBounds_toArray, List.set_cons_zero, List.set_cons_succ]
              refine wpAnyH_ready (rs := [7, 8]) (by kernel_rfl) (by simp) ?_
              refine AllReadyH.cons (o := { dst := some 47, op := Go.Op.call { callee := Go.Callee.value (Go.Operand.func 62), args := #[Go.Operand.tmp 41, Go.Operand.tmp 46], argTypes := #[40, 40] }, type := 79, pos := "plane.go:53", after := #[{ on := 1, ground := Go.Ground.data }, { on := 6, ground := Go.Ground.data }, { on := 6, ground := Go.Ground.chain }], guard := none }) rfl (fun K hK => ?_) (AllReadyH.cons (o := { dst := some 11, op := Go.Op.alloc 79, type := 0, pos := "plane.go:53", after := #[], guard := none }) rfl (fun K hK => ?_) AllReadyH.nil)
              · go_simp
                go_at_call 62
                with_reducible refine Calls.mono (HKO.out _ A7 ?_ ?_) ?_
                · exact F7.bel ‹_›
                · exact hr7
                rintro e w8 ⟨x, y, rfl, ho, hb8⟩
                try go_wp2_with fail
                refine hK.out _ _ (F7.go ‹_› hb8) (fun hHeld2 => ?_)
                clear hK K hHeld
                have hHeld := hHeld2; clear hHeld2
                try simp only [Act.put, List.setIfInBounds_toArray, List.set_cons_zero, List.set_cons_succ]
                refine wpAnyH_ready (rs := [8]) (by kernel_rfl) (by simp) ?_
                refine AllReadyH.cons (o := { dst := some 11, op := Go.Op.alloc 79, type := 0, pos := "plane.go:53", after := #[], guard := none }) rfl (fun K hK => ?_) AllReadyH.nil
                have hF8 : F7 sb w.heap.size u Aj cj r W w8 := ‹_›
                have hpt0 := PtAt.new w8 zP w8.heap.size rfl
                have z0 := hpt0.cell0; have z1 := hpt0.cell1; have zl := hpt0.lt
                have f0 := hpt0.froz 0; have f1 := hpt0.froz 1
                go_simp
                refine hK.out _ _ (F7.go ‹_› ((Below.refl _ _).alloc (Nat.le_refl _) _)) (fun hHeld2 => ?_)
                clear hK K hHeld
                have hHeld := hHeld2; clear hHeld2
                try simp only [Act.put, List.setIfInBounds_toArray, List.set_cons_zero, List.set_cons_succ]
                refine wpAnyH_ready (rs := [9]) (by kernel_rfl) (by simp) ?_
                refine AllReadyH.cons (o := { dst := none, op := Go.Op.store 79 (Go.Operand.tmp 11) (Go.Operand.tmp 47), type := 0, pos := "plane.go:53", after := #[{ on := 8, ground := Go.Ground.data }, { on := 7, ground := Go.Ground.data }, { on := 7, ground := Go.Ground.chain }, { on := 0, ground := Go.Ground.phase }, { on := 1, ground := Go.Ground.phase }, { on := 2, ground := Go.Ground.phase }, { on := 3, ground := Go.Ground.phase }, { on := 4, ground := Go.Ground.phase }, { on := 5, ground := Go.Ground.phase }, { on := 6, ground := Go.Ground.phase }, { on := 7, ground := Go.Ground.phase }, { on := 8, ground := Go.Ground.phase }], guard := none }) rfl (fun K hK => ?_) AllReadyH.nil
                go_simp
                have HPT := Lib.hid (PtAt.new w8 ⟨x, y⟩ w8.heap.size rfl)
                clear z0 z1 zl f0 f1
                refine hK.out _ _ (F7.go hF8 ((Below.refl _ _).alloc (Nat.le_refl _) _)) (fun hHeld2 => ?_)
                clear hK K hHeld
                have hHeld := hHeld2; clear hHeld2
                try simp only [Act.put, List.setIfInBounds_toArray, List.set_cons_zero, List.set_cons_succ]
                refine wpAnyH_done (by kernel_rfl) ?_ _
                have hF7 := hHeld
                have HB9 := F7.bel hF7
                have HP9 := Lib.hid (HP3.out.below (F7.base hF7).out)
                have p0 := HPT.out.cell0; have p1 := HPT.out.cell1; have pl := HPT.out.lt
                have g0 := HP9.out.c0; have g1 := HP9.out.c1; have g2 := HP9.out.c2; have gl := HP9.out.lt
                have h0 := HP9.out.froz 0; have h1 := HP9.out.froz 1; have h2 := HP9.out.froz 2
                clear hHeld hF7
                go_wp2_with fail
                exact bodyPost_ret (v := .tuple #[.agg #[.int .i64 x, .int .i64 y, .int .i64 zz], .bool true]) (by simp [results, Tryz.results14, go_sem, *]) rfl ⟨(⟨x, y, zz⟩, true), rfl, HYES.out x y ho, by have hk := HWW.out.trans (HB9.mono HWW.out.size); have hg := HG6.out; (repeat' first | exact Below.refl _ _ | assumption | (apply below_drewN) | (refine Below.setCell ?_ (by (try simp); (try omega)) _) | (refine Below.alloc ?_ (by (try simp); (try omega)) _) | (refine Below.trans ?_ (Below.mono (Hid.out (by assumption)) (by (try simp); (try omega)))))⟩
              · have hF8 : F7 sb w.heap.size u Aj cj r W w7 := ‹_›; have hq := F7.bel hF8
                have hpt0 := PtAt.new w7 zP _ rfl
                have ba7 := (Below.refl w7.heap.size w7).alloc (Nat.le_refl _) (.cells #[.int .i64 0, .int .i64 0] 79)
                have hr7b := hr7.below ba7
                go_simp
                refine hK.out _ _ (F7.go ‹_› ((Below.refl _ _).alloc (Nat.le_refl _) _)) (fun hHeld2 => ?_)
                clear hK K hHeld
                have hHeld := hHeld2; clear hHeld2
                try simp only [Act.put, List.setIfInBounds_toArray, List.set_cons_zero, List.set_cons_succ]
                refine wpAnyH_ready (rs := [7]) (by kernel_rfl) (by simp) ?_
                refine AllReadyH.cons (o := { dst := some 47, op := Go.Op.call { callee := Go.Callee.value (Go.Operand.func 62), args := #[Go.Operand.tmp 41, Go.Operand.tmp 46], argTypes := #[40, 40] }, type := 79, pos := "plane.go:53", after := #[{ on := 1, ground := Go.Ground.data }, { on := 6, ground := Go.Ground.data }, { on := 6, ground := Go.Ground.chain }], guard := none }) rfl (fun K hK => ?_) AllReadyH.nil
                go_simp
                go_at_call 62
                with_reducible refine Calls.mono (HKO.out _ A7 ?_ ?_) ?_
                · exact F7.bel ‹_›
                · exact hr7b
                rintro e w8 ⟨x, y, rfl, ho, hb8⟩
                try go_wp2_with fail
                refine hK.out _ _ (F7.go ‹_› hb8) (fun hHeld2 => ?_)
                clear hK K hHeld
                have hHeld := hHeld2; clear hHeld2
                try simp only [Act.put, List.setIfInBounds_toArray, List.set_cons_zero, List.set_cons_succ]
                have hpt : PtAt _ w7.heap.size zP := hpt0.below hb8 hpt0.lt
                have z0 := hpt.cell0; have z1 := hpt.cell1; have zl := hpt.lt
                have f0 := hpt.froz 0; have f1 := hpt.froz 1
                have hpn : sb ≠ w7.heap.size ∧ w.heap.size ≠ w7.heap.size ∧ W.heap.size ≤ w7.heap.size := ⟨by have := F7.sbl hF8; omega, by have := HWW.out.size; have := hq.size; have := HG6.out; omega, hq.size⟩
                refine wpAnyH_ready (rs := [9]) (by kernel_rfl) (by simp) ?_
                refine AllReadyH.cons (o := { dst := none, op := Go.Op.store 79 (Go.Operand.tmp 11) (Go.Operand.tmp 47), type := 0, pos := "plane.go:53", after := #[{ on := 8, ground := Go.Ground.data }, { on := 7, ground := Go.Ground.data }, { on := 7, ground := Go.Ground.chain }, { on := 0, ground := Go.Ground.phase }, { on := 1, ground := Go.Ground.phase }, { on := 2, ground := Go.Ground.phase }, { on := 3, ground := Go.Ground.phase }, { on := 4, ground := Go.Ground.phase }, { on := 5, ground := Go.Ground.phase }, { on := 6, ground := Go.Ground.phase }, { on := 7, ground := Go.Ground.phase }, { on := 8, ground := Go.Ground.phase }], guard := none }) rfl (fun K hK => ?_) AllReadyH.nil
                go_simp
                have HPT := Lib.hid (hpt.set (s := ⟨x, y⟩) rfl rfl)
                clear z0 z1 zl f0 f1
                refine hK.out _ _ ((F7.set (F7.set ‹_› hpn.1 hpn.2.1 hpn.2.2) hpn.1 hpn.2.1 hpn.2.2)) (fun hHeld2 => ?_)
                clear hK K hHeld
                have hHeld := hHeld2; clear hHeld2
                try simp only [Act.put, List.setIfInBounds_toArray, List.set_cons_zero, List.set_cons_succ]
                refine wpAnyH_done (by kernel_rfl) ?_ _
                have hF7 := hHeld
                have HB9 := F7.bel hF7
                have HP9 := Lib.hid (HP3.out.below (F7.base hF7).out)
                have p0 := HPT.out.cell0; have p1 := HPT.out.cell1; have pl := HPT.out.lt
                have g0 := HP9.out.c0; have g1 := HP9.out.c1; have g2 := HP9.out.c2; have gl := HP9.out.lt
                have h0 := HP9.out.froz 0; have h1 := HP9.out.froz 1; have h2 := HP9.out.froz 2
                clear hHeld hF7
                go_wp2_with fail
                exact bodyPost_ret (v := .tuple #[.agg #[.int .i64 x, .int .i64 y, .int .i64 zz], .bool true]) (by simp [results, Tryz.results14, go_sem, *]) rfl ⟨(⟨x, y, zz⟩, true), rfl, HYES.out x y ho, by have hk := HWW.out.trans (HB9.mono HWW.out.size); have hg := HG6.out; (repeat' first | exact Below.refl _ _ | assumption | (apply below_drewN) | (refine Below.setCell ?_ (by (try simp); (try omega)) _) | (refine Below.alloc ?_ (by (try simp); (try omega)) _) | (refine Below.trans ?_ (Below.mono (Hid.out (by assumption)) (by (try simp); (try omega)))))⟩
            · have hF8 : F7 sb w.heap.size u Aj cj r W w4.drew := ‹_›; have hq := F7.bel hF8
              have hpt0 := PtAt.new w4.drew zP w4.heap.size rfl
              go_simp
              refine hK.out _ _ (F7.go ‹_› ((Below.refl _ _).alloc (Nat.le_refl _) _)) (fun hHeld2 => ?_)
              clear hK K hHeld
              have hHeld := hHeld2; clear hHeld2
              try simp only [Act.put, List.setIfInBounds_toArray, List.set_cons_zero, List.set_cons_succ]
              refine wpAnyH_ready (rs := [6]) (by kernel_rfl) (by simp) ?_
              refine AllReadyH.cons (o := { dst := some 46, op := Go.Op.call { callee := Go.Callee.value (Go.Operand.func 63), args := #[Go.Operand.tmp 42, Go.Operand.tmp 43, Go.Operand.tmp 45], argTypes := #[33, 34, 3] }, type := 40, pos := "plane.go:53", after := #[{ on := 2, ground := Go.Ground.data }, { on := 3, ground := Go.Ground.data }, { on := 5, ground := Go.Ground.data }], guard := none }) rfl (fun K hK => ?_) AllReadyH.nil
              go_simp
              go_at_call 63
              with_reducible refine Calls.mono (HKR.out _ ?_) ?_
              · exact F7.bel ‹_›
              rintro e w7 ⟨A7, rfl, hr7, hb⟩
              try go_wp2_with fail
              refine hK.out _ _ (F7.go ‹_› hb) (fun hHeld2 => ?_)
              clear hK K hHeld
              have hHeld := hHeld2; clear hHeld2
              try simp only [Act.put, List.setIfInBounds_toArray, List.set_cons_zero, List.set_cons_succ]
              have hpt1 := hpt0.below hb hpt0.lt
              refine wpAnyH_ready (rs := [7]) (by kernel_rfl) (by simp) ?_
              refine AllReadyH.cons (o := { dst := some 47, op := Go.Op.call { callee := Go.Callee.value (Go.Operand.func 62), args := #[Go.Operand.tmp 41, Go.Operand.tmp 46], argTypes := #[40, 40] }, type := 79, pos := "plane.go:53", after := #[{ on := 1, ground := Go.Ground.data }, { on := 6, ground := Go.Ground.data }, { on := 6, ground := Go.Ground.chain }], guard := none }) rfl (fun K hK => ?_) AllReadyH.nil
              go_simp
              go_at_call 62
              with_reducible refine Calls.mono (HKO.out _ A7 ?_ ?_) ?_
              · exact F7.bel ‹_›
              · exact hr7
              rintro e w8 ⟨x, y, rfl, ho, hb8⟩
              try go_wp2_with fail
              refine hK.out _ _ (F7.go ‹_› hb8) (fun hHeld2 => ?_)
              clear hK K hHeld
              have hHeld := hHeld2; clear hHeld2
              try simp only [Act.put, List.setIfInBounds_toArray, List.set_cons_zero, List.set_cons_succ]
              have hpt : PtAt _ w4.heap.size zP := hpt1.below hb8 hpt1.lt
              have z0 := hpt.cell0; have z1 := hpt.cell1; have zl := hpt.lt
              have f0 := hpt.froz 0; have f1 := hpt.froz 1
              have hpn : sb ≠ w4.heap.size ∧ w.heap.size ≠ w4.heap.size ∧ W.heap.size ≤ w4.heap.size := ⟨(by have h8 := F7.sbl hF8; have h9 : sb < w4.heap.size := h8; omega), (by have := HWW.out.size; have h8 := hq.size; have h9 : W.heap.size ≤ w4.heap.size := h8; have := HG6.out; omega), hq.size⟩
              refine wpAnyH_ready (rs := [9]) (by kernel_rfl) (by simp) ?_
              refine AllReadyH.cons (o := { dst := none, op := Go.Op.store 79 (Go.Operand.tmp 11) (Go.Operand.tmp 47), type := 0, pos := "plane.go:53", after := #[{ on := 8, ground := Go.Ground.data }, { on := 7, ground := Go.Ground.data }, { on := 7, ground := Go.Ground.chain }, { on := 0, ground := Go.Ground.phase }, { on := 1, ground := Go.Ground.phase }, { on := 2, ground := Go.Ground.phase }, { on := 3, ground := Go.Ground.phase }, { on := 4, ground := Go.Ground.phase }, { on := 5, ground := Go.Ground.phase }, { on := 6, ground := Go.Ground.phase }, { on := 7, ground := Go.Ground.phase }, { on := 8, ground := Go.Ground.phase }], guard := none }) rfl (fun K hK => ?_) AllReadyH.nil
              go_simp
              have HPT := Lib.hid (hpt.set (s := ⟨x, y⟩) rfl rfl)
              clear z0 z1 zl f0 f1
              refine hK.out _ _ ((F7.set (F7.set ‹_› hpn.1 hpn.2.1 hpn.2.2) hpn.1 hpn.2.1 hpn.2.2)) (fun hHeld2 => ?_)
              clear hK K hHeld
              have hHeld := hHeld2; clear hHeld2
              try simp only [Act.put, List.setIfInBounds_toArray, List.set_cons_zero, List.set_cons_succ]
              refine wpAnyH_done (by kernel_rfl) ?_ _
              have hF7 := hHeld
              have HB9 := F7.bel hF7
              have HP9 := Lib.hid (HP3.out.below (F7.base hF7).out)
              have p0 := HPT.out.cell0; have p1 := HPT.out.cell1; have pl := HPT.out.lt
              have g0 := HP9.out.c0; have g1 := HP9.out.c1; have g2 := HP9.out.c2; have gl := HP9.out.lt
              have h0 := HP9.out.froz 0; have h1 := HP9.out.froz 1; have h2 := HP9.out.froz 2
              clear hHeld hF7
              go_wp2_with fail
              exact bodyPost_ret (v := .tuple #[.agg #[.int .i64 x, .int .i64 y, .int .i64 zz], .bool true]) (by simp [results, Tryz.results14, go_sem, *]) rfl ⟨(⟨x, y, zz⟩, true), rfl, HYES.out x y ho, by have hk := HWW.out.trans (HB9.mono HWW.out.size); have hg := HG6.out; (repeat' first | exact Below.refl _ _ | assumption | (apply below_drewN) | (refine Below.setCell ?_ (by (try simp); (try omega)) _) | (refine Below.alloc ?_ (by (try simp); (try omega)) _) | (refine Below.trans ?_ (Below.mono (Hid.out (by assumption)) (by (try simp); (try omega)))))⟩
          · have hzd : decide (zz < u.z1) = false := decide_eq_false hz
            have HST2 := Lib.hid (HST.out hz)
            clear HST HFO HFI
            go_wp2_with fail
            generalize World.alloc wr _ = w3 at *
            generalize wr.heap.size = sb at *
            clear y0 y1 y2 hbw
            go_region_held3 (fun w' => w'.cell? ⟨sb, 0, none⟩ = some (.int .i64 u.z0) ∧ w'.cell? ⟨sb, 1, none⟩ = some (.int .i64 u.z1) ∧ w'.cell? ⟨sb, 2, none⟩ = some (.slice Aj u.ar.length cj) ∧ w'.cell? ⟨w.heap.size, 0, none⟩ = some (.int .i64 r.X0) ∧ w'.cell? ⟨w.heap.size, 1, none⟩ = some (.int .i64 r.Y0) ∧ w'.cell? ⟨w.heap.size, 2, none⟩ = some (.int .i64 r.X1) ∧ w'.cell? ⟨w.heap.size, 3, none⟩ = some (.int .i64 r.Y1) ∧ sb < w'.heap.size ∧ w.heap.size < w'.heap.size ∧ Hid (Below W.heap.size W w'))
              (first | exact E3.out | exact F7.drewN E3.out 1 | exact F7.go ‹_› ‹_› | assumption)
              (first | (go_at_call 61; (with_reducible refine Calls.mono (HLW.out _ ?_) ?_); (exact F7.bel (F7.drewN E3.out 1)); rintro e w4 ⟨rfl, hb⟩) | fail)
            have E4 : Hid (F7 sb w.heap.size u Aj cj r W w4) := Lib.hid (by assumption)
            have s1 := E4.out.2.1; have sl := E4.out.2.2.2.2.2.2.2.1
            clear E3 HLW
            go_wp2_with fail
            go_roundw
            case rel => exact ⟨k + 1, by omega, by go_num, Lib.hid (F7.bel E4.out), HST2⟩
            case measure => simp [intOf]; omega
        · obtain rfl : k = S.length := by omega
          have HY := Lib.hid (HFI.out _ (HD.out.all HS.out.form rfl))
          have HP9 := Lib.hid (HP3.out.below HB.out)
          have g0 := HP9.out.c0; have g1 := HP9.out.c1; have g2 := HP9.out.c2; have gl := HP9.out.lt
          have h0 := HP9.out.froz 0; have h1 := HP9.out.froz 1; have h2 := HP9.out.froz 2
          go_wp2_with fail
          exact bodyPost_ret (v := .tuple #[.agg #[.int .i64 0, .int .i64 0, .int .i64 0], .bool false]) (by simp [results, Tryz.results14, go_sem, *]) rfl ⟨(z3, false), rfl, HY.out, by have hk := HWW.out.trans (HB.out.mono HWW.out.size); have hg := HG6.out; (repeat' first | exact Below.refl _ _ | assumption | (apply below_drewN) | (refine Below.setCell ?_ (by (try simp); (try omega)) _) | (refine Below.alloc ?_ (by (try simp); (try omega)) _) | (refine Below.trans ?_ (Below.mono (Hid.out (by assumption)) (by (try simp); (try omega)))))⟩
    · have HBR := Lib.hid (fun w' (h : Below W.heap.size W w') => bright_no (HSL.out.below h) cs)
      have HFI : Hid (FC r l S (z3, false)) := Lib.hid ⟨fun h => absurd h.2 cs, fun _ => rfl⟩
      clear ca cs HA
      go_enter Tryz.func14, Tryz.ntmps14
      go_wp2_with fail
      rw [← hW0, ← hW]
      clear hW0 hW
      refine (HAR.out _ (Below.refl _ _)).mono ?_
      rintro e w1 ⟨rfl, hb⟩
      have B1 := Lib.hid hb; clear hb HAR x0 x1 x2 x3 xl
      go_wp2_with fail
      refine (HBR.out _ B1.out).mono ?_
      rintro e w2 ⟨rfl, hb⟩
      have B2 := Lib.hid (B1.out.trans (hb.mono B1.out.size)); clear hb HBR B1
      have HP9 := Lib.hid (HP3.out.below B2.out)
      have g0 := HP9.out.c0; have g1 := HP9.out.c1; have g2 := HP9.out.c2; have gl := HP9.out.lt
      have h0 := HP9.out.froz 0; have h1 := HP9.out.froz 1; have h2 := HP9.out.froz 2
      go_wp2_with fail
      exact bodyPost_ret (v := .tuple #[.agg #[.int .i64 0, .int .i64 0, .int .i64 0], .bool false]) (by simp [results, Tryz.results14, go_sem, *]) rfl ⟨(z3, false), rfl, HFI.out, by have hk := HWW.out.trans (B2.out.mono HWW.out.size); have hg := HG6.out; (repeat' first | exact Below.refl _ _ | assumption | (apply below_drewN) | (refine Below.setCell ?_ (by (try simp); (try omega)) _) | (refine Below.alloc ?_ (by (try simp); (try omega)) _) | (refine Below.trans ?_ (Below.mono (Hid.out (by assumption)) (by (try simp); (try omega)))))⟩
  · rw [decide_eq_false ca] at HAR
    have HFI : Hid (FC r l S (z3, false)) := Lib.hid ⟨fun h => absurd h.1 ca, fun _ => rfl⟩
    clear ca
    go_enter Tryz.func14, Tryz.ntmps14
    go_wp2_with fail
    rw [← hW0, ← hW]
    clear hW0 hW
    refine (HAR.out _ (Below.refl _ _)).mono ?_
    rintro e w1 ⟨rfl, hb⟩
    have B2 := Lib.hid hb; clear hb HAR x0 x1 x2 x3 xl
    have HP9 := Lib.hid (HP3.out.below B2.out)
    have g0 := HP9.out.c0; have g1 := HP9.out.c1; have g2 := HP9.out.c2; have gl := HP9.out.lt
    have h0 := HP9.out.froz 0; have h1 := HP9.out.froz 1; have h2 := HP9.out.froz 2
    go_wp2_with fail
    exact bodyPost_ret (v := .tuple #[.agg #[.int .i64 0, .int .i64 0, .int .i64 0], .bool false]) (by simp [results, Tryz.results14, go_sem, *]) rfl ⟨(z3, false), rfl, HFI.out, by have hk := HWW.out.trans (B2.out.mono HWW.out.size); have hg := HG6.out; (repeat' first | exact Below.refl _ _ | assumption | (apply below_drewN) | (refine Below.setCell ?_ (by (try simp); (try omega)) _) | (refine Below.alloc ?_ (by (try simp); (try omega)) _) | (refine Below.trans ?_ (Below.mono (Hid.out (by assumption)) (by (try simp); (try omega)))))⟩
end Go.Proofs.YtkjblmfmaenllaaGreat
