/-
  Contracts of the program's layer 6 (17): connected, in general.
-/
import Derived.Test.YtcnojedijimheaaHt
import Derived.Test.YtcnojedijimheaaKc
import Derived.Laws.OwnMore
set_option linter.unusedVariables false
set_option maxRecDepth 100000
namespace Go.Proofs.Ytcnojedijimheaa
open Go.RowKit

def Ty (rb j g q eb : Nat) (u v : Rc) (w0 w : World) : Prop := w.cell? ⟨rb, j, none⟩ = some (.bool false) ∧ w.cell? ⟨g, q * 4, none⟩ = some (.int .i64 u.X0) ∧ w.cell? ⟨g, q * 4 + 1, none⟩ = some (.int .i64 u.Y0) ∧ w.cell? ⟨g, q * 4 + 2, none⟩ = some (.int .i64 u.X1) ∧ w.cell? ⟨g, q * 4 + 3, none⟩ = some (.int .i64 u.Y1) ∧ w.cell? ⟨eb, 0, none⟩ = some (.int .i64 v.X0) ∧ w.cell? ⟨eb, 1, none⟩ = some (.int .i64 v.Y0) ∧ w.cell? ⟨eb, 2, none⟩ = some (.int .i64 v.X1) ∧ w.cell? ⟨eb, 3, none⟩ = some (.int .i64 v.Y1) ∧ rb < w.heap.size ∧ g < w.heap.size ∧ eb < w.heap.size ∧ Hid (Below w0.heap.size w0 w)
theorem Ty.go {rb j g q eb : Nat} {u v : Rc} {w0 w w' : World} (h : Ty rb j g q eb u v w0 w) (hb : Below w.heap.size w w') : Ty rb j g q eb u v w0 w' := by
  obtain ⟨h0, a0, a1, a2, a3, b0, b1, b2, b3, l0, l1, l2, hh⟩ := h
  have c := fun b o (hb2 : b < w.heap.size) => hb.cell (p := ⟨b, o, none⟩) hb2
  exact ⟨(c _ _ l0).trans h0, (c _ _ l1).trans a0, (c _ _ l1).trans a1, (c _ _ l1).trans a2, (c _ _ l1).trans a3, (c _ _ l2).trans b0, (c _ _ l2).trans b1, (c _ _ l2).trans b2, (c _ _ l2).trans b3, Nat.lt_of_lt_of_le l0 hb.size, Nat.lt_of_lt_of_le l1 hb.size, Nat.lt_of_lt_of_le l2 hb.size, Lib.hid (hh.out.trans (hb.mono hh.out.size))⟩
theorem Ty.drewN {rb j g q eb : Nat} {u v : Rc} {w0 w : World} (h : Ty rb j g q eb u v w0 w) (n : Nat) : Ty rb j g q eb u v w0 (w.drewN n) := h.go (below_drewN (Below.refl _ _) n)
/-- what connected keeps: the part, who is reached, and all else. -/
structure CP (rb n : Nat) (s : CS) (vp : Value) (w wr : World) : Prop where
  part : wr.ownsRow w.heap.size 41 4 vp s.2.length (rcells s.2)
  flags : wr.ownsRow rb 4 1 (.slice (some ⟨rb, 0, none⟩) n n) n (bcells s.1)
  grown : w.grownBy wr (some rb)
theorem CP.go {rb n : Nat} {s : CS} {vp : Value} {w wr w' : World} (h : CP rb n s vp w wr) (hb : Below wr.heap.size wr w') : CP rb n s vp w w' := ⟨own_go h.part hb, own_go h.flags hb, grown_below h.grown hb⟩
theorem grown_set {w w1 : World} {r i : Nat} {u : Value} (h : w.grownBy w1 (some r)) : w.grownBy (w1.setCell ⟨r, i, none⟩ u) (some r) :=
  grown_trans h ⟨rfl, rfl, rfl, by simp [World.setCell], fun k hk hne => set_other _ _ _ _ (fun e => hne (by rw [e]))⟩
theorem grown_own {w w1 w2 : World} {r : Nat} {row : Option Nat} (h : w.grownBy w1 (some r)) (k : w1.grownBy w2 row) (hrow : ∀ g, row = some g → w.heap.size ≤ g) : w.grownBy w2 (some r) :=
  ⟨k.os.trans h.os, k.tape.trans h.tape, k.output.trans h.output, Nat.le_trans h.size k.size, fun i hi hne => (k.block i (Nat.lt_of_lt_of_le hi h.size) (fun e => by have := hrow i e.symm; omega)).trans (h.block i hi hne)⟩
def ConnRes (rb n : Nat) (s : CS) (w : World) (e : Ending) (w' : World) : Prop := ∃ vp, e = .returned vp ∧ CP rb n s vp w w'
set_option maxHeartbeats 32000000 in
theorem gconn_any (b1 o1 c1 rb : Nat) (a : List Rc) (R : List Bool) (i : Nat) (w : World) (ha : RRow w (some ⟨b1, o1, none⟩) a) (hi : i < a.length) (hal : a.length ≤ 1099511627776) (hbr : b1 ≠ rb)
    (hR : w.ownsRow rb 4 1 (.slice (some ⟨rb, 0, none⟩) a.length a.length) a.length (bcells R)) (hf : R.getD i true = false) :
    Calls Try.prog 69 #[.slice (some ⟨b1, o1, none⟩) a.length c1, .int .i64 i, .slice (some ⟨rb, 0, none⟩) a.length a.length] w (ConnRes rb a.length (connM a i R) w) := by
  obtain ⟨i0, hi9, hz0, hz1, hz2⟩ := info_parts infoRect
  obtain ⟨hb1, hv⟩ := ha.some (by omega)
  have hRl : R.length = a.length := by have := hR.1; simpa [bcells] using this
  have hrb : rb < w.heap.size := (hR.lt rb rfl).2
  obtain ⟨x0, x1, x2, x3⟩ := hv i hi
  have HCI := Lib.hid (conn_start hRl hf)
  have HFIN : Hid (connR a 0 (R.set i true, [a.getD i zR]) = connM a i R) := Lib.hid rfl
  rw [getD_in a zR hi] at HCI HFIN
  generalize connM a i R = fin at *
  obtain ⟨u, hu⟩ : ∃ u, u = a[i] := ⟨_, rfl⟩
  rw [← hu] at x0 x1 x2 x3 HCI HFIN
  have hfz := hR.frozenAt i
  have hcl := hR.cellAt i (by omega)
  have hcl2 : w.cell? ⟨rb, i, none⟩ = some (.bool (R[i]'(by omega))) := by rw [hcl]; simp [bcells, hRl, hi]
  have K0 : Hid (CP rb a.length (R.set i true, [u]) (.slice (some ⟨w.heap.size, 0, none⟩) 1 1) w ((w.setCell ⟨rb, i, none⟩ (.bool true)).alloc (.cells #[.int .i64 u.X0, .int .i64 u.Y0, .int .i64 u.X1, .int .i64 u.Y1] 41))) := Lib.hid (by
    have hw2 := hR.stored i (.bool true)
    have hsz : (w.setCell ⟨rb, i, none⟩ (.bool true)).heap.size = w.heap.size := by simp [World.setCell]
    have hg : w.grownBy (w.setCell ⟨rb, i, none⟩ (.bool true)) (some rb) := ⟨rfl, rfl, rfl, by rw [hsz]; exact Nat.le_refl _, fun k hk hne => set_other _ _ _ _ (fun e => hne (by rw [e]))⟩
    have hfl : (w.setCell ⟨rb, i, none⟩ (.bool true)).ownsRow rb 4 1 (.slice (some ⟨rb, 0, none⟩) a.length a.length) a.length (bcells (R.set i true)) := by
      rw [show bcells (R.set i true) = (bcells R).set i (.bool true) by simp [bcells, List.map_set]]; exact hw2.1
    generalize (w.setCell ⟨rb, i, none⟩ (.bool true)) = ws at *
    have hl := World.ownsRow_lit (base := ws.heap.size) ws #[.int .i64 u.X0, .int .i64 u.Y0, .int .i64 u.X1, .int .i64 u.Y1] 1 (Nat.le_refl _) (by unfold maxLen; omega) (e := 41) (size := 4) (by simp)
    have hz : (#[.int .i64 u.X0, .int .i64 u.Y0, .int .i64 u.X1, .int .i64 u.Y1] : Array Value).toList = rcells [u] := by simp [rcells]
    rw [hz, hsz] at hl
    exact ⟨hl, own_go hfl ((Below.refl _ _).alloc (Nat.le_refl _) _), grown_below hg ((Below.refl _ _).alloc (Nat.le_refl _) _)⟩)
  have HROW := Lib.hid ha
  have HRL := Lib.hid hRl
  generalize R[i]'(by omega) = bi at hcl2
  clear hv hR hcl hu ha hRl hf
  have n0 : (0 : Int) ≤ (i : Int) := by omega
  have n1 : (i : Int) < (a.length : Int) := by omega
  go_enter Try.func69, Try.ntmps69
  go_wp2_with fail
  clear x0 x1 x2 x3 hfz hcl2
  go_loopw [7, 8] (fun p nx wr => ∃ (q : Nat) (s : CS) (vp : Value), vp = p ∧ nx = .int .i64 q ∧ q ≤ s.2.length ∧ 0 < s.2.length ∧ Hid (CInv a s) ∧ Hid (connR a q s = fin) ∧ Hid (CP rb a.length s vp w wr)) (fun _ nx _ => a.length - (intOf nx).toNat)
  case atStart => exact ⟨0, _, _, rfl, rfl, Nat.zero_le _, by simp, HCI, HFIN, K0⟩
  case round =>
    clear K0 HCI HFIN
    obtain ⟨q, s, vp, rfl, rfl, hq, hpos, HCI, HFIN, HC⟩ := hrel
    obtain ⟨g, cap, rfl, hgB, hgl⟩ := HC.out.part.form hpos
    by_cases hqs : q < s.2.length
    · have hsl : s.2.length ≤ a.length := Nat.le_trans (Nat.le_add_right _ _) HCI.out.2
      have HSTEP := Lib.hid ((connR_step hqs hsl).symm.trans HFIN.out)
      obtain ⟨u, hu⟩ : ∃ u, u = s.2.getD q zR := ⟨_, rfl⟩
      rw [← hu] at HSTEP
      have HU : Hid (s.2[q]? = some u) := Lib.hid (by rw [hu, getD_in _ _ hqs]; exact List.getElem?_eq_getElem hqs)
      clear hu HFIN
      have q0 : (0 : Int) ≤ (q : Int) := by omega
      have q1 : (q : Int) < (s.2.length : Int) := by omega
      have q2 : IntKind.i64.wrap ((q : Int) + 1) = (q : Int) + 1 := IntWalk.i64_in _ (by omega)
      go_wp2_with fail
      go_loopw [7, 27] (fun p ii wr => ∃ (j : Nat) (t : CS) (vp : Value), vp = p ∧ j ≤ a.length ∧ ii = .int .i64 j ∧ Hid (t = lookN a u j s) ∧ Hid (CP rb a.length t vp w wr)) (fun _ ii _ => a.length - (intOf ii).toNat)
      case atStart => exact ⟨0, s, _, rfl, Nat.zero_le _, rfl, Lib.hid rfl, HC⟩
      case round =>
        clear HC hgB hgl
        obtain ⟨j, t, vp, rfl, hj, rfl, HT, HC⟩ := hrel
        have HTI : Hid (CInv a t) := Lib.hid (by rw [HT.out]; exact lookN_inv HCI.out j)
        obtain ⟨Pr, hPr⟩ := lookN_grow (a := a) (u := u) (s := s) j
        rw [← HT.out] at hPr
        have hpl : s.2.length ≤ t.2.length := by rw [hPr, List.length_append]; omega
        have hpos2 : 0 < t.2.length := by omega
        have HUT : Hid (t.2[q]? = some u) := Lib.hid (by rw [hPr, List.getElem?_append_left hqs]; exact HU.out)
        clear hPr
        have htl : t.2.length ≤ a.length := Nat.le_trans (Nat.le_add_right _ _) HTI.out.2
        obtain ⟨g, cap, rfl, hgB, hgl⟩ := HC.out.part.form hpos2
        by_cases hlt : j < a.length
        · have q3 : (q : Int) < (t.2.length : Int) := by omega
          obtain ⟨_, hv⟩ := HROW.out.some (by omega)
          obtain ⟨x0, x1, x2, x3⟩ := hv j hlt
          have wc : ∀ o, wr.cell? ⟨b1, o, none⟩ = w.cell? ⟨b1, o, none⟩ := fun o => by
            have := HC.out.grown.block b1 hb1 (fun e => by simp at e; exact hbr e)
            simp [World.cell?, this]
          have x0 := (wc _).trans x0; have x1 := (wc _).trans x1; have x2 := (wc _).trans x2; have x3 := (wc _).trans x3
          have hwsz := HC.out.grown.size
          have hfl := HC.out.flags.cellAt j (by omega)
          have hlen : t.1.length = a.length := HTI.out.1
          have hflag : wr.cell? ⟨rb, j, none⟩ = some (.bool (t.1.getD j true)) := by
            rw [hfl]; unfold bcells; rw [List.getElem?_map, List.getElem?_eq_getElem (by rw [hlen]; exact hlt), getD_in _ _ (by rw [hlen]; exact hlt)]; rfl
          have j0 : (0 : Int) ≤ (j : Int) := by omega
          have j1 : (j : Int) < (a.length : Int) := by omega
          obtain ⟨v, hv2⟩ : ∃ v, v = a.getD j zR := ⟨_, rfl⟩
          rw [← getD_in a zR hlt, ← hv2] at x0 x1 x2 x3
          have HLK : Hid (lookN a u (j + 1) s = if t.1.getD j true = false ∧ TouchR u v then (t.1.set j true, t.2 ++ [v]) else t) := Lib.hid (by
            show lookI a u j (lookN a u j s) = _
            rw [← HT.out, hv2]; rfl)
          obtain ⟨fl, hfl2⟩ : ∃ fl, fl = t.1.getD j true := ⟨_, rfl⟩
          rw [← hfl2] at hflag HLK
          have pc := fun k (hk : k < t.2.length * 4) => HC.out.part.cellAt k hk
          obtain ⟨e0, e1, e2, e3⟩ := rcells_at t.2 q (by omega)
          have htq : t.2[q]'(by omega) = u := by have := HUT.out; rw [List.getElem?_eq_getElem (by omega)] at this; exact Option.some.inj this
          rw [htq] at e0 e1 e2 e3
          have p0 := (pc _ (by omega)).trans e0; have p1 := (pc _ (by omega)).trans e1; have p2 := (pc _ (by omega)).trans e2; have p3 := (pc _ (by omega)).trans e3
          clear pc e0 e1 e2 e3 htq hv2 hfl hlen wc hv hfl2
          have hrbw : rb < wr.heap.size := by omega
          have halb : Below wr.heap.size wr (wr.alloc (.cells #[.int .i64 v.X0, .int .i64 v.Y0, .int .i64 v.X1, .int .i64 v.Y1] 41)) := (Below.refl _ _).alloc (Nat.le_refl _) _
          have HAL := Lib.hid halb; clear halb
          cases fl with
          | true =>
            have HNX : Hid (t = lookN a u (j + 1) s) := Lib.hid (by rw [HLK.out, if_neg (fun h => by have := h.1; cases this)])
            clear HLK p0 p1 p2 p3
            go_wp2_with fail
            go_quiet (fail)
            go_wp2_with fail
            go_roundw
            case rel => exact ⟨j + 1, t, _, rfl, by omega, by go_num, HNX, Lib.hid (HC.out.go (HAL.out.trans (below_drewN (Below.refl _ _) _)))⟩
            case measure => simp [intOf]; omega
          | false =>
            have E0 : Hid (Ty rb j g q wr.heap.size u v wr (wr.alloc (.cells #[.int .i64 v.X0, .int .i64 v.Y0, .int .i64 v.X1, .int .i64 v.Y1] 41))) := Lib.hid (by
              have h1 := HAL.out
              have hn := RcAt.new wr v _ rfl
              have cc := fun b o (hb2 : b < wr.heap.size) => h1.cell (p := ⟨b, o, none⟩) hb2
              exact ⟨(cc _ _ hrbw).trans hflag, (cc _ _ hgl).trans p0, (cc _ _ hgl).trans p1, (cc _ _ hgl).trans p2, (cc _ _ hgl).trans p3, hn.cell0, hn.cell1, hn.cell2, hn.cell3, Nat.lt_of_lt_of_le hrbw h1.size, Nat.lt_of_lt_of_le hgl h1.size, hn.lt, Lib.hid h1⟩)
            have HTO := Lib.hid (fun w' => ttouch_any u v w')
            clear p0 p1 p2 p3 hflag
            by_cases ht : TouchR u v
            · have HNX : Hid ((t.1.set j true, t.2 ++ [v]) = lookN a u (j + 1) s) := Lib.hid (by rw [HLK.out, if_pos ⟨rfl, ht⟩])
              rw [decide_eq_true ht] at HTO
              clear ht HLK
              go_wp2_with fail
              refine wp_region_held_drew (S := fun w' => w'.cell? ⟨rb, j, none⟩ = some (.bool false) ∧ w'.cell? ⟨g, q * 4, none⟩ = some (.int .i64 u.X0) ∧ w'.cell? ⟨g, q * 4 + 1, none⟩ = some (.int .i64 u.Y0) ∧ w'.cell? ⟨g, q * 4 + 2, none⟩ = some (.int .i64 u.X1) ∧ w'.cell? ⟨g, q * 4 + 3, none⟩ = some (.int .i64 u.Y1) ∧ w'.cell? ⟨wr.heap.size, 0, none⟩ = some (.int .i64 v.X0) ∧ w'.cell? ⟨wr.heap.size, 1, none⟩ = some (.int .i64 v.Y0) ∧ w'.cell? ⟨wr.heap.size, 2, none⟩ = some (.int .i64 v.X1) ∧ w'.cell? ⟨wr.heap.size, 3, none⟩ = some (.int .i64 v.Y1) ∧ rb < w'.heap.size ∧ g < w'.heap.size ∧ wr.heap.size < w'.heap.size ∧ Hid (Below wr.heap.size wr w')) (by kernel_rfl) ?_ (fun hHeld => ?_)
              · exact Ty.drewN E0.out 1
              refine wpAnyH_take (i := 0) (oi := { dst := some 32, op := Op.move (Operand.tmp 2), type := 69, pos := "region.go:171", after := #[], guard := none }) (v := ?_) rfl (by kernel_rfl) (by kernel_rfl) (by kernel_rfl) (fun _ _ _ h => h) (Or.inl ⟨by rfl, ?_⟩) (by assumption) ?_
              rotate_left
              · (intro w hSw; (try dsimp only at hSw); go_simp); try with_reducible rfl
              try simp only [Act.put, List.setIfInBounds_toArray, List.set_cons_zero, List.set_cons_succ]
              refine wpAnyH_take (i := 1) (oi := { dst := some 33, op := Op.move (Operand.tmp 9), type := 3, pos := "region.go:171", after := #[], guard := none }) (v := ?_) rfl (by kernel_rfl) (by kernel_rfl) (by kernel_rfl) (fun _ _ _ h => h) (Or.inl ⟨by rfl, ?_⟩) (by assumption) ?_
              rotate_left
              · (intro w hSw; (try dsimp only at hSw); go_simp); try with_reducible rfl
              try simp only [Act.put, List.setIfInBounds_toArray, List.set_cons_zero, List.set_cons_succ]
              refine wpAnyH_take (i := 2) (oi := { dst := some 34, op := Op.indexAddr 69 (Operand.tmp 32) (Operand.tmp 33), type := 0, pos := "region.go:171", after := #[{ on := 0, ground := Ground.data }, { on := 1, ground := Ground.data }], guard := none }) (v := ?_) rfl (by kernel_rfl) (by kernel_rfl) (by kernel_rfl) (fun _ _ _ h => h) (Or.inl ⟨by rfl, ?_⟩) (by assumption) ?_
              rotate_left
              · (intro w hSw; (try dsimp only at hSw); go_simp); try with_reducible rfl
              try simp only [Act.put, List.setIfInBounds_toArray, List.set_cons_zero, List.set_cons_succ]
              refine wpAnyH_take (i := 3) (oi := { dst := some 35, op := Op.load 4 (Operand.tmp 34), type := 4, pos := "region.go:171", after := #[{ on := 2, ground := Ground.data }], guard := none }) (v := ?_) rfl (by kernel_rfl) (by kernel_rfl) (by kernel_rfl) (fun _ _ _ h => h) (Or.inl ⟨by rfl, ?_⟩) (by assumption) ?_
              rotate_left
              · (intro w hSw; (try dsimp only at hSw); go_simp); try with_reducible rfl
              try simp only [Act.put, List.setIfInBounds_toArray, List.set_cons_zero, List.set_cons_succ]
              refine wpAnyH_take (i := 4) (oi := { dst := some 36, op := Op.unOp UnOp.not 4 (Operand.tmp 35), type := 4, pos := "region.go:171", after := #[{ on := 3, ground := Ground.data }], guard := none }) (v := ?_) rfl (by kernel_rfl) (by kernel_rfl) (by kernel_rfl) (fun _ _ _ h => h) (Or.inl ⟨by rfl, ?_⟩) (by assumption) ?_
              rotate_left
              · (intro w hSw; (try dsimp only at hSw); go_simp); try with_reducible rfl
              try simp only [Act.put, List.setIfInBounds_toArray, List.set_cons_zero, List.set_cons_succ]
              refine wpAnyH_take (i := 5) (oi := { dst := some 37, op := Op.move (Operand.tmp 36), type := 4, pos := "region.go:171", after := #[{ on := 4, ground := Ground.data }], guard := none }) (v := ?_) rfl (by kernel_rfl) (by kernel_rfl) (by kernel_rfl) (fun _ _ _ h => h) (Or.inl ⟨by rfl, ?_⟩) (by assumption) ?_
              rotate_left
              · (intro w hSw; (try dsimp only at hSw); go_simp); try with_reducible rfl
              try simp only [Act.put, List.setIfInBounds_toArray, List.set_cons_zero, List.set_cons_succ]
              refine wpAnyH_take (i := 6) (oi := { dst := some 38, op := Op.move (Operand.tmp 7), type := 22, pos := "region.go:171", after := #[{ on := 5, ground := Ground.guard }], guard := some (5, true) }) (v := ?_) rfl (by kernel_rfl) (by kernel_rfl) (by kernel_rfl) (fun _ _ _ h => h) (Or.inl ⟨by rfl, ?_⟩) (by assumption) ?_
              rotate_left
              · (intro w hSw; (try dsimp only at hSw); go_simp); try with_reducible rfl
              try simp only [Act.put, List.setIfInBounds_toArray, List.set_cons_zero, List.set_cons_succ]
              refine wpAnyH_take (i := 7) (oi := { dst := some 39, op := Op.move (Operand.tmp 8), type := 3, pos := "region.go:171", after := #[{ on := 5, ground := Ground.guard }], guard := some (5, true) }) (v := ?_) rfl (by kernel_rfl) (by kernel_rfl) (by kernel_rfl) (fun _ _ _ h => h) (Or.inl ⟨by rfl, ?_⟩) (by assumption) ?_
              rotate_left
              · (intro w hSw; (try dsimp only at hSw); go_simp); try with_reducible rfl
              try simp only [Act.put, List.setIfInBounds_toArray, List.set_cons_zero, List.set_cons_succ]
              refine wpAnyH_take (i := 8) (oi := { dst := some 40, op := Op.indexAddr 22 (Operand.tmp 38) (Operand.tmp 39), type := 0, pos := "region.go:171", after := #[{ on := 6, ground := Ground.data }, { on := 7, ground := Ground.data }, { on := 5, ground := Ground.guard }], guard := some (5, true) }) (v := ?_) rfl (by kernel_rfl) (by kernel_rfl) (by kernel_rfl) (fun _ _ _ h => h) (Or.inl ⟨by rfl, ?_⟩) (by assumption) ?_
              rotate_left
              · (intro w hSw; (try dsimp only at hSw); go_simp); try with_reducible rfl
              try simp only [Act.put, List.setIfInBounds_toArray, List.set_cons_zero, List.set_cons_succ]
              refine wpAnyH_take (i := 9) (oi := { dst := some 41, op := Op.load 41 (Operand.tmp 40), type := 41, pos := "region.go:171", after := #[{ on := 8, ground := Ground.data }, { on := 5, ground := Ground.guard }], guard := some (5, true) }) (v := ?_) rfl (by kernel_rfl) (by kernel_rfl) (by kernel_rfl) (fun _ _ _ h => h) (Or.inl ⟨by rfl, ?_⟩) (by assumption) ?_
              rotate_left
              · (intro w hSw; (try dsimp only at hSw); go_simp); try with_reducible rfl
              try simp only [Act.put, List.setIfInBounds_toArray, List.set_cons_zero, List.set_cons_succ]
              refine wpAnyH_take (i := 10) (oi := { dst := some 42, op := Op.load 41 (Operand.tmp 10), type := 41, pos := "region.go:171", after := #[{ on := 5, ground := Ground.guard }], guard := some (5, true) }) (v := ?_) rfl (by kernel_rfl) (by kernel_rfl) (by kernel_rfl) (fun _ _ _ h => h) (Or.inl ⟨by rfl, ?_⟩) (by assumption) ?_
              rotate_left
              · (intro w hSw; (try dsimp only at hSw); go_simp); try with_reducible rfl
              try simp only [Act.put, List.setIfInBounds_toArray, List.set_cons_zero, List.set_cons_succ]
              refine wpAnyH_ready (rs := [11]) (by kernel_rfl) (by simp) ?_
              refine AllReadyH.cons (o := { dst := some 43, op := Op.call { callee := Callee.value (Operand.func 102), args := #[Operand.tmp 41, Operand.tmp 42], argTypes := #[41, 41] }, type := 4, pos := "region.go:171", after := #[{ on := 9, ground := Ground.data }, { on := 10, ground := Ground.data }, { on := 5, ground := Ground.chain }, { on := 5, ground := Ground.guard }], guard := some (5, true) }) rfl (fun K hK => ?_) AllReadyH.nil
              go_simp
              go_at_call 102
              refine (HTO.out _).mono ?_
              rintro e w' ⟨rfl, hb⟩
              try go_wp2_with fail
              refine hK.out _ _ (Ty.go ‹_› hb) (fun hHeld2 => ?_)
              clear hK K hHeld hb
              have hHeld := hHeld2; clear hHeld2
              try simp only [Act.put, List.setIfInBounds_toArray, List.set_cons_zero, List.set_cons_succ]
              refine wpAnyH_take (i := 12) (oi := { dst := some 44, op := Op.pick (Operand.tmp 37) (Operand.tmp 43) (Operand.const (Value.bool false)), type := 4, pos := "region.go:171", after := #[{ on := 5, ground := Ground.data }, { on := 11, ground := Ground.data }], guard := none }) (v := ?_) rfl (by kernel_rfl) (by kernel_rfl) (by kernel_rfl) (fun _ _ _ h => h) (Or.inl ⟨by rfl, ?_⟩) (by assumption) ?_
              rotate_left
              · (intro w hSw; (try dsimp only at hSw); go_simp); try with_reducible rfl
              try simp only [Act.put, List.setIfInBounds_toArray, List.set_cons_zero, List.set_cons_succ]
              refine wpAnyH_done (by kernel_rfl) ?_ _
              have HBW := hHeld.2.2.2.2.2.2.2.2.2.2.2.2
              have HC2 := Lib.hid (HC.out.go HBW.out)
              have f0 := HC2.out.flags.frozenAt j
              have hk0 := hHeld.1
              have hz0' := hHeld.2.2.2.2.2.2.2.2.2.1
              have ec0 := hHeld.2.2.2.2.2.1; have ec1 := hHeld.2.2.2.2.2.2.1; have ec2 := hHeld.2.2.2.2.2.2.2.1; have ec3 := hHeld.2.2.2.2.2.2.2.2.1
              have ez := hHeld.2.2.2.2.2.2.2.2.2.2.2.1
              have ec : ∀ o, (w'.setCell ⟨rb, j, none⟩ (.bool true)).cell? ⟨wr.heap.size, o, none⟩ = w'.cell? ⟨wr.heap.size, o, none⟩ := fun o => by
                have := set_other w' ⟨rb, j, none⟩ (.bool true) wr.heap.size (by simp; omega)
                simp [World.cell?, this]
              have ed0 := (ec _).trans ec0; have ed1 := (ec _).trans ec1; have ed2 := (ec _).trans ec2; have ed3 := (ec _).trans ec3
              have HS2 : Hid (CP rb a.length (t.1.set j true, t.2) (.slice (some ⟨g, 0, none⟩) t.2.length cap) w (w'.setCell ⟨rb, j, none⟩ (.bool true))) := Lib.hid (by
                have hw2 := HC2.out.flags.stored j (.bool true)
                refine ⟨own_stays HC2.out.part (fun k hk => set_other _ _ _ _ (fun e => ?_)), ?_, grown_set HC2.out.grown⟩
                · exact own_apart HC2.out.part HC2.out.flags (by decide) k hk (by rw [e]; rfl)
                · rw [show bcells (t.1.set j true) = (bcells t.1).set j (.bool true) by simp [bcells, List.map_set]]; exact hw2.1)
              have hsz2 : (w'.setCell ⟨rb, j, none⟩ (.bool true)).heap.size = w'.heap.size := by simp [World.setCell]
              have hws : w.heap.size ≤ w'.heap.size := hsz2 ▸ HS2.out.grown.size
              have HNEW : Hid (∀ k x, [Value.int .i64 v.X0, .int .i64 v.Y0, .int .i64 v.X1, .int .i64 v.Y1][k]? = some x → ((w'.setCell ⟨rb, j, none⟩ (.bool true)).alloc (.cells #[.int .i64 v.X0, .int .i64 v.Y0, .int .i64 v.X1, .int .i64 v.Y1] 41)).cell? ((⟨w'.heap.size, 0, none⟩ : Addr).add k) = some x) := Lib.hid (by
                rw [← hsz2]
                generalize (w'.setCell ⟨rb, j, none⟩ (.bool true)) = ws
                intro k x hk
                match k, hk with
                | 0, hk => simp at hk; subst hk; simp [Addr.add]
                | 1, hk => simp at hk; subst hk; simp [Addr.add]
                | 2, hk => simp at hk; subst hk; simp [Addr.add]
                | 3, hk => simp at hk; subst hk; simp [Addr.add])
              have HO := Lib.hid HS2.out.part
              clear ec ec0 ec1 ec2 ec3 HC2 HC hHeld
              go_wp2_with (at_builtin; refine wpList_append_own _ rfl _ _ 22 rfl w.heap.size 41 i0 (.agg #[.int .i64 0, .int .i64 0, .int .i64 0, .int .i64 0]) 4 32 Try.underlying22 hi9 hz0 hz1 hz2 rfl (by decide) _ _ _ rfl (HO.out.alloc _) ⟨w'.heap.size, 0, none⟩ 1 1 [.int .i64 v.X0, .int .i64 v.Y0, .int .i64 v.X1, .int .i64 v.Y1] rfl rfl ?c1 ?c2 ?c3 ?c4 ?c5 ?_)
              case c2 => exact ⟨rfl, rfl, rfl, rfl⟩
              case c3 => unfold maxLen; omega
              case c4 => omega
              case c5 => first | omega | (simp; omega)
              intro v' w4 hown' hgr _
              have HX : Hid (CP rb a.length (t.1.set j true, t.2 ++ [v]) v' w w4) := Lib.hid (by
                have hal2 := HS2.out.go ((Below.refl _ (w'.setCell ⟨rb, j, none⟩ (.bool true))).alloc (Nat.le_refl _) (.cells #[.int .i64 v.X0, .int .i64 v.Y0, .int .i64 v.X1, .int .i64 v.Y1] 41))
                refine ⟨?_, own_kept hal2.part hal2.flags (by decide) hgr, grown_own hal2.grown hgr (fun k hk => (hal2.part.lt k hk).1)⟩
                rw [show rcells (t.2 ++ [v]) = rcells t.2 ++ [.int .i64 v.X0, .int .i64 v.Y0, .int .i64 v.X1, .int .i64 v.Y1] by rw [rcells_append]; simp [rcells], List.length_append]
                exact hown')
              clear hown' hgr HO HS2
              go_wp2_with fail
              go_roundw
              case rel => exact ⟨j + 1, _, _, rfl, by omega, by go_num, HNX, HX⟩
              case measure => simp [intOf]; omega
            · have HNX : Hid (t = lookN a u (j + 1) s) := Lib.hid (by rw [HLK.out, if_neg (fun h => ht h.2)])
              rw [decide_eq_false ht] at HTO
              clear ht HLK
              go_wp2_with fail
              refine wp_region_held_drew (S := fun w' => w'.cell? ⟨rb, j, none⟩ = some (.bool false) ∧ w'.cell? ⟨g, q * 4, none⟩ = some (.int .i64 u.X0) ∧ w'.cell? ⟨g, q * 4 + 1, none⟩ = some (.int .i64 u.Y0) ∧ w'.cell? ⟨g, q * 4 + 2, none⟩ = some (.int .i64 u.X1) ∧ w'.cell? ⟨g, q * 4 + 3, none⟩ = some (.int .i64 u.Y1) ∧ w'.cell? ⟨wr.heap.size, 0, none⟩ = some (.int .i64 v.X0) ∧ w'.cell? ⟨wr.heap.size, 1, none⟩ = some (.int .i64 v.Y0) ∧ w'.cell? ⟨wr.heap.size, 2, none⟩ = some (.int .i64 v.X1) ∧ w'.cell? ⟨wr.heap.size, 3, none⟩ = some (.int .i64 v.Y1) ∧ rb < w'.heap.size ∧ g < w'.heap.size ∧ wr.heap.size < w'.heap.size ∧ Hid (Below wr.heap.size wr w')) (by kernel_rfl) ?_ (fun hHeld => ?_)
              · exact Ty.drewN E0.out 1
              refine wpAnyH_take (i := 0) (oi := { dst := some 32, op := Op.move (Operand.tmp 2), type := 69, pos := "region.go:171", after := #[], guard := none }) (v := ?_) rfl (by kernel_rfl) (by kernel_rfl) (by kernel_rfl) (fun _ _ _ h => h) (Or.inl ⟨by rfl, ?_⟩) (by assumption) ?_
              rotate_left
              · (intro w hSw; (try dsimp only at hSw); go_simp); try with_reducible rfl
              try simp only [Act.put, List.setIfInBounds_toArray, List.set_cons_zero, List.set_cons_succ]
              refine wpAnyH_take (i := 1) (oi := { dst := some 33, op := Op.move (Operand.tmp 9), type := 3, pos := "region.go:171", after := #[], guard := none }) (v := ?_) rfl (by kernel_rfl) (by kernel_rfl) (by kernel_rfl) (fun _ _ _ h => h) (Or.inl ⟨by rfl, ?_⟩) (by assumption) ?_
              rotate_left
              · (intro w hSw; (try dsimp only at hSw); go_simp); try with_reducible rfl
              try simp only [Act.put, List.setIfInBounds_toArray, List.set_cons_zero, List.set_cons_succ]
              refine wpAnyH_take (i := 2) (oi := { dst := some 34, op := Op.indexAddr 69 (Operand.tmp 32) (Operand.tmp 33), type := 0, pos := "region.go:171", after := #[{ on := 0, ground := Ground.data }, { on := 1, ground := Ground.data }], guard := none }) (v := ?_) rfl (by kernel_rfl) (by kernel_rfl) (by kernel_rfl) (fun _ _ _ h => h) (Or.inl ⟨by rfl, ?_⟩) (by assumption) ?_
              rotate_left
              · (intro w hSw; (try dsimp only at hSw); go_simp); try with_reducible rfl
              try simp only [Act.put, List.setIfInBounds_toArray, List.set_cons_zero, List.set_cons_succ]
              refine wpAnyH_take (i := 3) (oi := { dst := some 35, op := Op.load 4 (Operand.tmp 34), type := 4, pos := "region.go:171", after := #[{ on := 2, ground := Ground.data }], guard := none }) (v := ?_) rfl (by kernel_rfl) (by kernel_rfl) (by kernel_rfl) (fun _ _ _ h => h) (Or.inl ⟨by rfl, ?_⟩) (by assumption) ?_
              rotate_left
              · (intro w hSw; (try dsimp only at hSw); go_simp); try with_reducible rfl
              try simp only [Act.put, List.setIfInBounds_toArray, List.set_cons_zero, List.set_cons_succ]
              refine wpAnyH_take (i := 4) (oi := { dst := some 36, op := Op.unOp UnOp.not 4 (Operand.tmp 35), type := 4, pos := "region.go:171", after := #[{ on := 3, ground := Ground.data }], guard := none }) (v := ?_) rfl (by kernel_rfl) (by kernel_rfl) (by kernel_rfl) (fun _ _ _ h => h) (Or.inl ⟨by rfl, ?_⟩) (by assumption) ?_
              rotate_left
              · (intro w hSw; (try dsimp only at hSw); go_simp); try with_reducible rfl
              try simp only [Act.put, List.setIfInBounds_toArray, List.set_cons_zero, List.set_cons_succ]
              refine wpAnyH_take (i := 5) (oi := { dst := some 37, op := Op.move (Operand.tmp 36), type := 4, pos := "region.go:171", after := #[{ on := 4, ground := Ground.data }], guard := none }) (v := ?_) rfl (by kernel_rfl) (by kernel_rfl) (by kernel_rfl) (fun _ _ _ h => h) (Or.inl ⟨by rfl, ?_⟩) (by assumption) ?_
              rotate_left
              · (intro w hSw; (try dsimp only at hSw); go_simp); try with_reducible rfl
              try simp only [Act.put, List.setIfInBounds_toArray, List.set_cons_zero, List.set_cons_succ]
              refine wpAnyH_take (i := 6) (oi := { dst := some 38, op := Op.move (Operand.tmp 7), type := 22, pos := "region.go:171", after := #[{ on := 5, ground := Ground.guard }], guard := some (5, true) }) (v := ?_) rfl (by kernel_rfl) (by kernel_rfl) (by kernel_rfl) (fun _ _ _ h => h) (Or.inl ⟨by rfl, ?_⟩) (by assumption) ?_
              rotate_left
              · (intro w hSw; (try dsimp only at hSw); go_simp); try with_reducible rfl
              try simp only [Act.put, List.setIfInBounds_toArray, List.set_cons_zero, List.set_cons_succ]
              refine wpAnyH_take (i := 7) (oi := { dst := some 39, op := Op.move (Operand.tmp 8), type := 3, pos := "region.go:171", after := #[{ on := 5, ground := Ground.guard }], guard := some (5, true) }) (v := ?_) rfl (by kernel_rfl) (by kernel_rfl) (by kernel_rfl) (fun _ _ _ h => h) (Or.inl ⟨by rfl, ?_⟩) (by assumption) ?_
              rotate_left
              · (intro w hSw; (try dsimp only at hSw); go_simp); try with_reducible rfl
              try simp only [Act.put, List.setIfInBounds_toArray, List.set_cons_zero, List.set_cons_succ]
              refine wpAnyH_take (i := 8) (oi := { dst := some 40, op := Op.indexAddr 22 (Operand.tmp 38) (Operand.tmp 39), type := 0, pos := "region.go:171", after := #[{ on := 6, ground := Ground.data }, { on := 7, ground := Ground.data }, { on := 5, ground := Ground.guard }], guard := some (5, true) }) (v := ?_) rfl (by kernel_rfl) (by kernel_rfl) (by kernel_rfl) (fun _ _ _ h => h) (Or.inl ⟨by rfl, ?_⟩) (by assumption) ?_
              rotate_left
              · (intro w hSw; (try dsimp only at hSw); go_simp); try with_reducible rfl
              try simp only [Act.put, List.setIfInBounds_toArray, List.set_cons_zero, List.set_cons_succ]
              refine wpAnyH_take (i := 9) (oi := { dst := some 41, op := Op.load 41 (Operand.tmp 40), type := 41, pos := "region.go:171", after := #[{ on := 8, ground := Ground.data }, { on := 5, ground := Ground.guard }], guard := some (5, true) }) (v := ?_) rfl (by kernel_rfl) (by kernel_rfl) (by kernel_rfl) (fun _ _ _ h => h) (Or.inl ⟨by rfl, ?_⟩) (by assumption) ?_
              rotate_left
              · (intro w hSw; (try dsimp only at hSw); go_simp); try with_reducible rfl
              try simp only [Act.put, List.setIfInBounds_toArray, List.set_cons_zero, List.set_cons_succ]
              refine wpAnyH_take (i := 10) (oi := { dst := some 42, op := Op.load 41 (Operand.tmp 10), type := 41, pos := "region.go:171", after := #[{ on := 5, ground := Ground.guard }], guard := some (5, true) }) (v := ?_) rfl (by kernel_rfl) (by kernel_rfl) (by kernel_rfl) (fun _ _ _ h => h) (Or.inl ⟨by rfl, ?_⟩) (by assumption) ?_
              rotate_left
              · (intro w hSw; (try dsimp only at hSw); go_simp); try with_reducible rfl
              try simp only [Act.put, List.setIfInBounds_toArray, List.set_cons_zero, List.set_cons_succ]
              refine wpAnyH_ready (rs := [11]) (by kernel_rfl) (by simp) ?_
              refine AllReadyH.cons (o := { dst := some 43, op := Op.call { callee := Callee.value (Operand.func 102), args := #[Operand.tmp 41, Operand.tmp 42], argTypes := #[41, 41] }, type := 4, pos := "region.go:171", after := #[{ on := 9, ground := Ground.data }, { on := 10, ground := Ground.data }, { on := 5, ground := Ground.chain }, { on := 5, ground := Ground.guard }], guard := some (5, true) }) rfl (fun K hK => ?_) AllReadyH.nil
              go_simp
              go_at_call 102
              refine (HTO.out _).mono ?_
              rintro e w' ⟨rfl, hb⟩
              try go_wp2_with fail
              refine hK.out _ _ (Ty.go ‹_› hb) (fun hHeld2 => ?_)
              clear hK K hHeld hb
              have hHeld := hHeld2; clear hHeld2
              try simp only [Act.put, List.setIfInBounds_toArray, List.set_cons_zero, List.set_cons_succ]
              refine wpAnyH_take (i := 12) (oi := { dst := some 44, op := Op.pick (Operand.tmp 37) (Operand.tmp 43) (Operand.const (Value.bool false)), type := 4, pos := "region.go:171", after := #[{ on := 5, ground := Ground.data }, { on := 11, ground := Ground.data }], guard := none }) (v := ?_) rfl (by kernel_rfl) (by kernel_rfl) (by kernel_rfl) (fun _ _ _ h => h) (Or.inl ⟨by rfl, ?_⟩) (by assumption) ?_
              rotate_left
              · (intro w hSw; (try dsimp only at hSw); go_simp); try with_reducible rfl
              try simp only [Act.put, List.setIfInBounds_toArray, List.set_cons_zero, List.set_cons_succ]
              refine wpAnyH_done (by kernel_rfl) ?_ _
              go_wp2_with fail
              go_roundw
              case rel => exact ⟨j + 1, t, _, rfl, by omega, by go_num, HNX, Lib.hid (HC.out.go hHeld.2.2.2.2.2.2.2.2.2.2.2.2.out)⟩
              case measure => simp [intOf]; omega
        · obtain rfl : j = a.length := by omega
          go_wp2_with fail
          go_roundw
          case rel => exact ⟨q + 1, t, _, rfl, by go_num, by omega, hpos2, HTI, Lib.hid (by rw [HT.out]; exact HSTEP.out), HC⟩
          case measure => simp [intOf]; omega
    · have HE : Hid (s = fin) := Lib.hid ((connR_end hqs).symm.trans HFIN.out)
      have q1 : ¬ (q : Int) < (s.2.length : Int) := by omega
      go_wp2_with fail
      go_ret
      exact ⟨_, rfl, by rw [← HE.out]; exact HC.out⟩
end Go.Proofs.Ytcnojedijimheaa
