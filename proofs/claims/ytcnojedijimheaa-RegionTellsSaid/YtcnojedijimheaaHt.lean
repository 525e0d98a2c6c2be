/-
  Contracts of the program's layer 6 (13): connected and Parts of a region whose rectangles don't touch.
-/
import Derived.Test.YtcnojedijimheaaHr
set_option linter.unusedVariables false
set_option maxRecDepth 100000
namespace Go.Proofs.Ytcnojedijimheaa
open Go.RowKit

theorem infoBool : (Try.prog.info? 4).map (fun i => (i.zero, i.size, i.bytes)) = some (some (.bool false), 1, 1) := by kernel_rfl
theorem infoRects : (Try.prog.info? 22).map (fun i => (i.zero, i.size, i.bytes)) = some (some (.slice none 0 0), 1, 24) := by kernel_rfl
def bcells (l : List Bool) : List Value := l.map Value.bool
def Tx (rb j pb eb : Nat) (u v : Rc) (w0 w : World) : Prop := w.cell? ⟨rb, j, none⟩ = some (.bool false) ∧ w.cell? ⟨pb, 0, none⟩ = some (.int .i64 u.X0) ∧ w.cell? ⟨pb, 1, none⟩ = some (.int .i64 u.Y0) ∧ w.cell? ⟨pb, 2, none⟩ = some (.int .i64 u.X1) ∧ w.cell? ⟨pb, 3, none⟩ = some (.int .i64 u.Y1) ∧ w.cell? ⟨eb, 0, none⟩ = some (.int .i64 v.X0) ∧ w.cell? ⟨eb, 1, none⟩ = some (.int .i64 v.Y0) ∧ w.cell? ⟨eb, 2, none⟩ = some (.int .i64 v.X1) ∧ w.cell? ⟨eb, 3, none⟩ = some (.int .i64 v.Y1) ∧ rb < w.heap.size ∧ pb < w.heap.size ∧ eb < w.heap.size ∧ Hid (Below w0.heap.size w0 w)
theorem Tx.go {rb j pb eb : Nat} {u v : Rc} {w0 w w' : World} (h : Tx rb j pb eb u v w0 w) (hb : Below w.heap.size w w') : Tx rb j pb eb u v w0 w' := by
  obtain ⟨h0, a0, a1, a2, a3, b0, b1, b2, b3, l0, l1, l2, hh⟩ := h
  have c := fun b o (hb2 : b < w.heap.size) => hb.cell (p := ⟨b, o, none⟩) hb2
  exact ⟨(c _ _ l0).trans h0, (c _ _ l1).trans a0, (c _ _ l1).trans a1, (c _ _ l1).trans a2, (c _ _ l1).trans a3, (c _ _ l2).trans b0, (c _ _ l2).trans b1, (c _ _ l2).trans b2, (c _ _ l2).trans b3, Nat.lt_of_lt_of_le l0 hb.size, Nat.lt_of_lt_of_le l1 hb.size, Nat.lt_of_lt_of_le l2 hb.size, Lib.hid (hh.out.trans (hb.mono hh.out.size))⟩
theorem Tx.drewN {rb j pb eb : Nat} {u v : Rc} {w0 w : World} (h : Tx rb j pb eb u v w0 w) (n : Nat) : Tx rb j pb eb u v w0 (w.drewN n) := h.go (below_drewN (Below.refl _ _) n)
/-- what connected keeps: the part's only rectangle, who is reached, and all else. -/
structure CO (pb rb n : Nat) (u : Rc) (R : List Bool) (w wr : World) : Prop where
  part : RcAt wr pb u
  flags : wr.ownsRow rb 4 1 (.slice (some ⟨rb, 0, none⟩) n n) n (bcells R)
  grown : w.grownBy wr (some rb)
theorem grown_trans {w w1 w2 : World} {r : Nat} (h : w.grownBy w1 (some r)) (k : w1.grownBy w2 (some r)) : w.grownBy w2 (some r) :=
  ⟨k.os.trans h.os, k.tape.trans h.tape, k.output.trans h.output, Nat.le_trans h.size k.size, fun i hi hne => (k.block i (Nat.lt_of_lt_of_le hi h.size) hne).trans (h.block i hi hne)⟩
theorem grown_below {w w1 w2 : World} {r : Nat} (h : w.grownBy w1 (some r)) (k : Below w1.heap.size w1 w2) : w.grownBy w2 (some r) :=
  grown_trans h ⟨k.os, k.tape, k.output, k.size, fun i hi _ => k.block i hi⟩
theorem CO.go {pb rb n : Nat} {u : Rc} {R : List Bool} {w wr w' : World} (h : CO pb rb n u R w wr) (hb : Below wr.heap.size wr w') : CO pb rb n u R w w' := ⟨h.part.below hb h.part.lt, own_go h.flags hb, grown_below h.grown hb⟩
def ConnIs (rb n : Nat) (u : Rc) (R : List Bool) (w : World) (e : Ending) (w' : World) : Prop := ∃ pb, e = .returned (.slice (some ⟨pb, 0, none⟩) 1 1) ∧ CO pb rb n u R w w'
set_option maxHeartbeats 16000000 in
theorem gconn_iso (b1 o1 c1 rb : Nat) (a : List Rc) (R : List Bool) (i : Nat) (w : World) (ha : RRow w (some ⟨b1, o1, none⟩) a) (hi : i < a.length) (hal : a.length ≤ 1099511627776) (hbr : b1 < rb)
    (hR : w.ownsRow rb 4 1 (.slice (some ⟨rb, 0, none⟩) a.length a.length) a.length (bcells R)) (hiso : ∀ j (h : j < a.length), j ≠ i → ¬ TouchR a[i] a[j]) :
    Calls Try.prog 69 #[.slice (some ⟨b1, o1, none⟩) a.length c1, .int .i64 i, .slice (some ⟨rb, 0, none⟩) a.length a.length] w (ConnIs rb a.length a[i] (R.set i true) w) := by
  obtain ⟨hb1, hv⟩ := ha.some (by omega)
  have hRl : R.length = a.length := by have := hR.1; simpa [bcells] using this
  have hrb : rb < w.heap.size := (hR.lt rb rfl).2
  obtain ⟨x0, x1, x2, x3⟩ := hv i hi
  obtain ⟨u, hu⟩ : ∃ u, u = a[i] := ⟨_, rfl⟩
  rw [← hu] at x0 x1 x2 x3 ⊢
  have hiso' : ∀ j (h : j < a.length), j ≠ i → ¬ TouchR u a[j] := fun j h hne => by rw [hu]; exact hiso j h hne
  have HISO := Lib.hid hiso'
  have hfz := hR.frozenAt i
  have hcl := hR.cellAt i (by omega)
  have hcl2 : w.cell? ⟨rb, i, none⟩ = some (.bool (R[i]'(by omega))) := by rw [hcl]; simp [bcells, hRl, hi]
  have K0 : Hid (CO w.heap.size rb a.length u (R.set i true) w ((w.setCell ⟨rb, i, none⟩ (.bool true)).alloc (.cells #[.int .i64 u.X0, .int .i64 u.Y0, .int .i64 u.X1, .int .i64 u.Y1] 41))) := Lib.hid (by
    have hw2 := hR.stored i (.bool true)
    have hsz : (w.setCell ⟨rb, i, none⟩ (.bool true)).heap.size = w.heap.size := by simp [World.setCell]
    have hg : w.grownBy (w.setCell ⟨rb, i, none⟩ (.bool true)) (some rb) := ⟨rfl, rfl, rfl, by rw [hsz]; exact Nat.le_refl _, fun k hk hne => set_other _ _ _ _ (fun e => hne (by rw [e]))⟩
    have hfl : (w.setCell ⟨rb, i, none⟩ (.bool true)).ownsRow rb 4 1 (.slice (some ⟨rb, 0, none⟩) a.length a.length) a.length (bcells (R.set i true)) := by
      rw [show bcells (R.set i true) = (bcells R).set i (.bool true) by simp [bcells, List.map_set]]; exact hw2.1
    generalize (w.setCell ⟨rb, i, none⟩ (.bool true)) = ws at *
    rw [← hsz]
    exact ⟨RcAt.new ws u _ rfl, own_go hfl ((Below.refl _ _).alloc (Nat.le_refl _) _), grown_below hg ((Below.refl _ _).alloc (Nat.le_refl _) _)⟩)
  have HROW := Lib.hid ha
  have HRL := Lib.hid hRl
  generalize R[i]'(by omega) = bi at hcl2
  clear hv hR hcl hu hiso hiso' ha hRl
  have i0 : (0 : Int) ≤ (i : Int) := by omega
  have i1 : (i : Int) < (a.length : Int) := by omega
  go_enter Try.func69, Try.ntmps69
  go_wp2_with fail
  clear x0 x1 x2 x3 hfz hcl2
  go_loopw [7, 8] (fun p nx wr => p = .slice (some ⟨w.heap.size, 0, none⟩) 1 1 ∧ ∃ q : Int, (q = 0 ∨ q = 1) ∧ nx = .int .i64 q ∧ Hid (CO w.heap.size rb a.length u (R.set i true) w wr)) (fun _ nx _ => 1 - (intOf nx).toNat)
  case atStart => exact ⟨rfl, 0, Or.inl rfl, rfl, K0⟩
  case round =>
    clear K0
    obtain ⟨rfl, q, hq, rfl, HC⟩ := hrel
    rcases hq with rfl | rfl
    · skip
      go_wp2_with fail
      go_loopw [7, 27] (fun p ii wr => p = .slice (some ⟨w.heap.size, 0, none⟩) 1 1 ∧ ∃ j : Nat, j ≤ a.length ∧ ii = .int .i64 j ∧ Hid (CO w.heap.size rb a.length u (R.set i true) w wr)) (fun _ ii _ => a.length - (intOf ii).toNat)
      case atStart => exact ⟨rfl, 0, Nat.zero_le _, rfl, HC⟩
      case round =>
        clear HC
        obtain ⟨rfl, j, hj, rfl, HC⟩ := hrel
        by_cases hlt : j < a.length
        · obtain ⟨_, hv⟩ := HROW.out.some (by omega)
          obtain ⟨x0, x1, x2, x3⟩ := hv j hlt
          have wc : ∀ o, wr.cell? ⟨b1, o, none⟩ = w.cell? ⟨b1, o, none⟩ := fun o => by
            have := HC.out.grown.block b1 hb1 (fun e => by simp at e; omega)
            simp [World.cell?, this]
          have x0 := (wc _).trans x0; have x1 := (wc _).trans x1; have x2 := (wc _).trans x2; have x3 := (wc _).trans x3
          have hwsz := HC.out.grown.size
          have hfl := HC.out.flags.cellAt j (by omega)
          have hlen : (R.set i true).length = a.length := by rw [List.length_set]; exact HRL.out
          have hflag : wr.cell? ⟨rb, j, none⟩ = some (.bool ((R.set i true)[j]'(by omega))) := by
            rw [hfl]; unfold bcells; rw [List.getElem?_map, List.getElem?_eq_getElem (by rw [hlen]; exact hlt)]; rfl
          have HIS := Lib.hid (fun h => HISO.out j hlt h)
          have HSET : Hid (j = i → (R.set i true)[j]'(by omega) = true) := Lib.hid (fun e => by subst e; simp)
          have j0 : (0 : Int) ≤ (j : Int) := by omega
          have j1 : (j : Int) < (a.length : Int) := by omega
          have HNXT := Lib.hid (HC.out.part)
          generalize (R.set i true)[j]'(by omega) = fl at *
          obtain ⟨v, hv2⟩ : ∃ v, v = a[j] := ⟨_, rfl⟩
          rw [← hv2] at x0 x1 x2 x3 HIS
          clear hv2 hfl hlen wc hv
          have hrbw : rb < wr.heap.size := by omega
          have halb : Below wr.heap.size wr (wr.alloc (.cells #[.int .i64 v.X0, .int .i64 v.Y0, .int .i64 v.X1, .int .i64 v.Y1] 41)) := (Below.refl _ _).alloc (Nat.le_refl _) _
          have HAL := Lib.hid halb; clear halb
          cases fl with
          | true =>
            go_wp2_with fail
            go_quiet (fail)
            go_wp2_with fail
            go_roundw
            case rel => exact ⟨rfl, j + 1, by omega, by go_num, Lib.hid (HC.out.go (HAL.out.trans (below_drewN (Below.refl _ _) _)))⟩
            case measure => simp [intOf]; omega
          | false =>
            have hji : j ≠ i := fun e => by have := HSET.out e; cases this
            have ht : decide (TouchR u v) = false := decide_eq_false (HIS.out hji)
            have HTO := Lib.hid (fun w' => ttouch_any u v w')
            rw [ht] at HTO
            have p0 := HNXT.out
            have E0 : Hid (Tx rb j w.heap.size wr.heap.size u v wr (wr.alloc (.cells #[.int .i64 v.X0, .int .i64 v.Y0, .int .i64 v.X1, .int .i64 v.Y1] 41))) := Lib.hid (by
              have h1 := HAL.out
              have hn := RcAt.new wr v _ rfl
              have p1 := p0.below h1 p0.lt
              exact ⟨(h1.cell (p := ⟨rb, j, none⟩) hrbw).trans hflag, p1.cell0, p1.cell1, p1.cell2, p1.cell3, hn.cell0, hn.cell1, hn.cell2, hn.cell3, Nat.lt_of_lt_of_le hrbw h1.size, p1.lt, hn.lt, Lib.hid h1⟩)
            clear ht hji p0 HIS HSET
            go_wp2_with fail
            refine wp_region_held_drew (S := fun w' => w'.cell? ⟨rb, j, none⟩ = some (.bool false) ∧ w'.cell? ⟨w.heap.size, 0, none⟩ = some (.int .i64 u.X0) ∧ w'.cell? ⟨w.heap.size, 1, none⟩ = some (.int .i64 u.Y0) ∧ w'.cell? ⟨w.heap.size, 2, none⟩ = some (.int .i64 u.X1) ∧ w'.cell? ⟨w.heap.size, 3, none⟩ = some (.int .i64 u.Y1) ∧ w'.cell? ⟨wr.heap.size, 0, none⟩ = some (.int .i64 v.X0) ∧ w'.cell? ⟨wr.heap.size, 1, none⟩ = some (.int .i64 v.Y0) ∧ w'.cell? ⟨wr.heap.size, 2, none⟩ = some (.int .i64 v.X1) ∧ w'.cell? ⟨wr.heap.size, 3, none⟩ = some (.int .i64 v.Y1) ∧ rb < w'.heap.size ∧ w.heap.size < w'.heap.size ∧ wr.heap.size < w'.heap.size ∧ Hid (Below wr.heap.size wr w')) (by kernel_rfl) ?_ (fun hHeld => ?_)
            · exact Tx.drewN E0.out 1
            refine wpAnyH_take (i := 0) (oi := { dst := some 32, op := Op.move (Operand.tmp 2), type := 69, pos := "region.go:171", after := #[], guard := none }) (v := ?_) rfl (by kernel_rfl) (by kernel_rfl) (by kernel_rfl) (fun _ _ _ h => h) (Or.inl ⟨by rfl, ?_⟩) (by assumption) ?_
            rotate_left
            · (intro w hSw; (try dsimp only at hSw); go_simp); try with_reducible rfl
            try simp only [Act.put, List.setIfInBounds_toArray, List.set_cons_zero, List.set_cons_succ]
            refine wpAnyH_take (i := 1) (oi := { dst := some 33, op := Op.move (Operand.tmp 9), type := 3, pos := "region.go:171", after := #[], guard := none }) (v := ?_) rfl (by kernel_rfl) (by kernel_rfl) (by kernel_rfl) (fun _ _ _ h => h) (Or.inl ⟨by rfl, ?_⟩) (by assumption) ?_
            rotate_left
            · (intro w hSw; (try dsimp only at hSw); go_simp); try with_reducible rfl
            try simp only [Act.put, List.setIfInBounds_toArray, List.set_cons_zero, List.set_cons_succ]
            refine wpAnyH_take (i := 2) (oi := { dst := some 34, op := Op.indexAddr 69 (Operand.tmp 32) (Operand.tmp 33), type := 0, pos := "region.go:171", after := #[{ on := 0, ground := Ground.data }, { on := 1, ground := Ground.data }], guard := none }) (v := ?_) rfl (by kernel_rfl) (by kernel_rfl) (by kernel_rfl) (fun _ _ _ h => h) (Or.inl ⟨by rfl, ?_⟩) (by assumption) ?_
            rotate_left
            · (intro w hSw; (try dsimp only at hSw); go_simp); try with_reducible rfl
            try simp only [Act.put, List.setIfInBounds_toArray, List.set_cons_zero, List.set_cons_succ]
            refine wpAnyH_take (i := 3) (oi := { dst := some 35, op := Op.load 4 (Operand.tmp 34), type := 4, pos := "region.go:171", after := #[{ on := 2, ground := Ground.data }], guard := none }) (v := ?_) rfl (by kernel_rfl) (by kernel_rfl) (by kernel_rfl) (fun _ _ _ h => h) (Or.inl ⟨by rfl, ?_⟩) (by assumption) ?_
            rotate_left
            · (intro w hSw; (try dsimp only at hSw); go_simp); try with_reducible rfl
            try simp only [Act.put, List.setIfInBounds_toArray, List.set_cons_zero, List.set_cons_succ]
            refine wpAnyH_take (i := 4) (oi := { dst := some 36, op := Op.unOp UnOp.not 4 (Operand.tmp 35), type := 4, pos := "region.go:171", after := #[{ on := 3, ground := Ground.data }], guard := none }) (v := ?_) rfl (by kernel_rfl) (by kernel_rfl) (by kernel_rfl) (fun _ _ _ h => h) (Or.inl ⟨by rfl, ?_⟩) (by assumption) ?_
            rotate_left
            · (intro w hSw; (try dsimp only at hSw); go_simp); try with_reducible rfl
            try simp only [Act.put, List.setIfInBounds_toArray, List.set_cons_zero, List.set_cons_succ]
            refine wpAnyH_take (i := 5) (oi := { dst := some 37, op := Op.move (Operand.tmp 36), type := 4, pos := "region.go:171", after := #[{ on := 4, ground := Ground.data }], guard := none }) (v := ?_) rfl (by kernel_rfl) (by kernel_rfl) (by kernel_rfl) (fun _ _ _ h => h) (Or.inl ⟨by rfl, ?_⟩) (by assumption) ?_
            rotate_left
            · (intro w hSw; (try dsimp only at hSw); go_simp); try with_reducible rfl
            try simp only [Act.put, List.setIfInBounds_toArray, List.set_cons_zero, List.set_cons_succ]
            refine wpAnyH_take (i := 6) (oi := { dst := some 38, op := Op.move (Operand.tmp 7), type := 22, pos := "region.go:171", after := #[{ on := 5, ground := Ground.guard }], guard := some (5, true) }) (v := ?_) rfl (by kernel_rfl) (by kernel_rfl) (by kernel_rfl) (fun _ _ _ h => h) (Or.inl ⟨by rfl, ?_⟩) (by assumption) ?_
            rotate_left
            · (intro w hSw; (try dsimp only at hSw); go_simp); try with_reducible rfl
            try simp only [Act.put, List.setIfInBounds_toArray, List.set_cons_zero, List.set_cons_succ]
            refine wpAnyH_take (i := 7) (oi := { dst := some 39, op := Op.move (Operand.tmp 8), type := 3, pos := "region.go:171", after := #[{ on := 5, ground := Ground.guard }], guard := some (5, true) }) (v := ?_) rfl (by kernel_rfl) (by kernel_rfl) (by kernel_rfl) (fun _ _ _ h => h) (Or.inl ⟨by rfl, ?_⟩) (by assumption) ?_
            rotate_left
            · (intro w hSw; (try dsimp only at hSw); go_simp); try with_reducible rfl
            try simp only [Act.put, List.setIfInBounds_toArray, List.set_cons_zero, List.set_cons_succ]
            refine wpAnyH_take (i := 8) (oi := { dst := some 40, op := Op.indexAddr 22 (Operand.tmp 38) (Operand.tmp 39), type := 0, pos := "region.go:171", after := #[{ on := 6, ground := Ground.data }, { on := 7, ground := Ground.data }, { on := 5, ground := Ground.guard }], guard := some (5, true) }) (v := ?_) rfl (by kernel_rfl) (by kernel_rfl) (by kernel_rfl) (fun _ _ _ h => h) (Or.inl ⟨by rfl, ?_⟩) (by assumption) ?_
            rotate_left
            · (intro w hSw; (try dsimp only at hSw); go_simp); try with_reducible rfl
            try simp only [Act.put, List.setIfInBounds_toArray, List.set_cons_zero, List.set_cons_succ]
            refine wpAnyH_take (i := 9) (oi := { dst := some 41, op := Op.load 41 (Operand.tmp 40), type := 41, pos := "region.go:171", after := #[{ on := 8, ground := Ground.data }, { on := 5, ground := Ground.guard }], guard := some (5, true) }) (v := ?_) rfl (by kernel_rfl) (by kernel_rfl) (by kernel_rfl) (fun _ _ _ h => h) (Or.inl ⟨by rfl, ?_⟩) (by assumption) ?_
            rotate_left
            · (intro w hSw; (try dsimp only at hSw); go_simp); try with_reducible rfl
            try simp only [Act.put, List.setIfInBounds_toArray, List.set_cons_zero, List.set_cons_succ]
            refine wpAnyH_take (i := 10) (oi := { dst := some 42, op := Op.load 41 (Operand.tmp 10), type := 41, pos := "region.go:171", after := #[{ on := 5, ground := Ground.guard }], guard := some (5, true) }) (v := ?_) rfl (by kernel_rfl) (by kernel_rfl) (by kernel_rfl) (fun _ _ _ h => h) (Or.inl ⟨by rfl, ?_⟩) (by assumption) ?_
            rotate_left
            · (intro w hSw; (try dsimp only at hSw); go_simp); try with_reducible rfl
            try simp only [Act.put, List.setIfInBounds_toArray, List.set_cons_zero, List.set_cons_succ]
            refine wpAnyH_ready (rs := [11]) (by kernel_rfl) (by simp) ?_
            refine AllReadyH.cons (o := { dst := some 43, op := Op.call { callee := Callee.value (Operand.func 102), args := #[Operand.tmp 41, Operand.tmp 42], argTypes := #[41, 41] }, type := 4, pos := "region.go:171", after := #[{ on := 9, ground := Ground.data }, { on := 10, ground := Ground.data }, { on := 5, ground := Ground.chain }, { on := 5, ground := Ground.guard }], guard := some (5, true) }) rfl (fun K hK => ?_) AllReadyH.nil
            go_simp
            go_at_call 102
            refine (HTO.out _).mono ?_
            rintro e w' ⟨rfl, hb⟩
            try go_wp2_with fail
            refine hK.out _ _ (Tx.go ‹_› hb) (fun hHeld2 => ?_)
            clear hK K hHeld hb
            have hHeld := hHeld2; clear hHeld2
            try simp only [Act.put, List.setIfInBounds_toArray, List.set_cons_zero, List.set_cons_succ]
            refine wpAnyH_take (i := 12) (oi := { dst := some 44, op := Op.pick (Operand.tmp 37) (Operand.tmp 43) (Operand.const (Value.bool false)), type := 4, pos := "region.go:171", after := #[{ on := 5, ground := Ground.data }, { on := 11, ground := Ground.data }], guard := none }) (v := ?_) rfl (by kernel_rfl) (by kernel_rfl) (by kernel_rfl) (fun _ _ _ h => h) (Or.inl ⟨by rfl, ?_⟩) (by assumption) ?_
            rotate_left
            · (intro w hSw; (try dsimp only at hSw); go_simp); try with_reducible rfl
            try simp only [Act.put, List.setIfInBounds_toArray, List.set_cons_zero, List.set_cons_succ]
            refine wpAnyH_done (by kernel_rfl) ?_ _
            go_wp2_with fail
            go_roundw
            case rel => exact ⟨rfl, j + 1, by omega, by go_num, Lib.hid (HC.out.go hHeld.2.2.2.2.2.2.2.2.2.2.2.2.out)⟩
            case measure => simp [intOf]; omega
        · obtain rfl : j = a.length := by omega
          go_wp2_with fail
          go_roundw
          case rel => exact ⟨rfl, 1, Or.inr rfl, by go_num, HC⟩
          case measure => simp [intOf]
    · go_wp2_with fail
      go_ret
      exact ⟨w.heap.size, rfl, HC.out⟩
end Go.Proofs.Ytcnojedijimheaa
