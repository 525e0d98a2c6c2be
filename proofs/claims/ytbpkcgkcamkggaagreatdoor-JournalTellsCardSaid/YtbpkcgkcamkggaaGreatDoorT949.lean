/-
  The walk of JournalTells.
-/
import Derived.Test.YtbpkcgkcamkggaaGreatDoorT948
import Derived.Deep.RegionLaw
import Derived.BigRegion
import Derived.Deep.Cut
import Derived.Deep.RegionHeld3
set_option linter.unusedVariables false
set_option maxRecDepth 100000
namespace Go.Proofs.YtbpkcgkcamkggaaGreatDoor
open Go.RowKit W

theorem cell_box {w : World} {b : Nat} {cs : Array Value} {T : TypeId} (h : w.heap[b]? = some (.cells cs T (0, 0))) (i : Nat) (u : Value) (hu : cs[i]? = some u) : w.cell? ⟨b, i, none⟩ = some u := by
  rw [Lib.cell_of_heap h]; exact hu

/-- All gives the records, in a new slice. -/
def AllIs (R : List (List UInt8)) (w : World) (e : Ending) (w' : World) : Prop := ∃ A cap, e = .returned (.slice A R.length cap) ∧ TRow (fun _ => False) w' A R ∧ Below w.heap.size w w'
theorem all_is {W : World} {r : Nat} {L : Lay} {d : Dk} {n rj : Nat} {v : Value} {f : Int} {R : List (List UInt8)} {bad : Bool} {w : World} (h : JH W r L d n rj v f R bad w) (hR : R.length ≤ 1099511627776) : Calls Tryz.prog 25 #[.pointer (some ⟨rj, 0, none⟩)] w (AllIs R w) :=
  (hAll h hR).mono fun e w' ⟨A, cap, he, _, ht, _, hb⟩ => ⟨A, cap, he, ht.any, hb⟩
def P44 (rk : Nat) (u : Value) (w0 w' : World) : Prop := rk < w'.heap.size ∧ w'.cell? ⟨rk, 2, none⟩ = some u ∧ Hid (Below w0.heap.size w0 w')
theorem P44.bel {rk : Nat} {u : Value} {w0 w : World} (h : P44 rk u w0 w) : Below w0.heap.size w0 w := h.2.2.out
theorem P44.go {rk : Nat} {u : Value} {w0 w w' : World} (h : P44 rk u w0 w) (hb : Below w.heap.size w w') : P44 rk u w0 w' :=
  ⟨Nat.lt_of_lt_of_le h.1 hb.size, (hb.cell (p := ⟨rk, 2, none⟩) h.1).trans h.2.1, Lib.hid (h.bel.trans (hb.mono h.bel.size))⟩
theorem P44.drewN {rk : Nat} {u : Value} {w0 w : World} (h : P44 rk u w0 w) (k : Nat) : P44 rk u w0 (w.drewN k) := h.go (below_drew w k)

set_option maxHeartbeats 60000000 in
theorem jtells_walk (A : Option Addr) (cap : Nat) (l : List JOp) (w : World) (hl : l.length ≤ 9223372036854775807) (hok : ∀ x ∈ l, JOpOk x) (hA : Ops w A l) (ht : Tab w) :
    Calls Tryz.prog 3 #[.slice A l.length cap] w fun e w' => e = .returned (.bool true) ∧ Below w.heap.size w w' := by
  have HT := Lib.hid ht; clear ht
  have HO := Lib.hid hok; clear hok
  have HA := Lib.hid hA; clear hA
  go_enter Tryz.func3, Tryz.ntmps3
  go_wp2_with fail
  refine (jsmall_any w HT.out).mono ?_
  rintro e w1 ⟨rfl, b1⟩
  go_wp2_with fail
  refine (jfew_any A cap l w1 hl HO.out (HA.out.below b1)).mono ?_
  rintro e w2 ⟨b, rfl, hb, b12⟩
  have B2 := Lib.hid (b1.trans (b12.mono b1.size))
  clear b1 b12
  cases b with
  | false =>
    clear hb
    go_wp2
    go_ret
    exact ⟨rfl, B2.out⟩
  | true =>
  have HF := Lib.hid (hb rfl)
  clear hb
  have hl25 := HF.out.1
  go_wp2_with fail
  refine (hNew B2.out).mono ?_
  rintro e w3 ⟨r, L, rfl, hh, _, _⟩
  have H3 := Lib.hid hh
  clear hh B2
  go_wp2_with fail
  refine (rd_new w.heap.size w3 H3.out.bel.size).mono ?_
  rintro e w4 ⟨rfl, h4, hb4⟩
  have H4 : Hid (JTE w r w3.heap.size 0 0 w4) := Lib.hid ⟨L, _, 0, by omega, H3.out.below hb4, h4⟩
  clear h4 hb4 H3
  generalize w3.heap.size = r2 at *
  go_wp2_with fail
  refine (jt_open H4.out (by omega) (by omega)).mono ?_
  rintro e w5 ⟨j, c, rfl, _, hq⟩
  have HQ := Lib.hid hq
  clear hq H4
  go_wp2_with fail
  refine HQ.out.mono ?_
  rintro e w6 ⟨q, rfl, _, h6⟩
  have H6 := Lib.hid h6
  clear h6 HQ
  go_wp2
  go_loopw [6, 7, 8, 9, 10] (fun j e q f i wr => ∃ (k : Nat) (c : Int), k ≤ l.length ∧ i = .int .i64 k ∧ e = .int .i64 c ∧ f = .int .i64 c ∧ Hid (JTI w r r2 (k + 1) j q wr)) (fun _ _ _ _ i _ => l.length - (intOf i).toNat)
  case atStart => exact ⟨0, c, Nat.zero_le _, rfl, rfl, rfl, H6⟩
  case round =>
    clear H6
    obtain ⟨k, c, hk, rfl, rfl, rfl, hI⟩ := hrel
    by_cases hlt : k < l.length
    · obtain ⟨b, off, rfl, hb, hv⟩ := HA.out (by omega)
      obtain ⟨AK, ck, hzK, hr, hc⟩ := hv k hlt
      have hbel := hI.out.bel
      have v0 := (hbel.cell (p := ⟨b, off + k * 4 + 0, none⟩) hb).trans (hc 0 _ rfl)
      have v1 := (hbel.cell (p := ⟨b, off + k * 4 + 1, none⟩) hb).trans (hc 1 _ rfl)
      have v2 := (hbel.cell (p := ⟨b, off + k * 4 + 2, none⟩) hb).trans (hc 2 _ rfl)
      have v3 := (hbel.cell (p := ⟨b, off + k * 4 + 3, none⟩) hb).trans (hc 3 _ rfl)
      rw [Nat.add_zero] at v0
      have hxo := HO.out l[k] (List.getElem_mem hlt)
      have ⟨f1, f2⟩ := HF.out.2 l[k] (List.getElem_mem hlt)
      have HXO := Lib.hid hxo
      have HR := Lib.hid hr
      have HZK := Lib.hid hzK
      clear hc hv hxo hr hzK
      generalize l[k] = x at *
      obtain ⟨K, sx, nx, kx⟩ := x
      simp only at v0 v1 v2 v3 f1 f2
      have hi0 : (0 : Int) ≤ (k : Int) := by omega
      have hi1 : (k : Int) < (l.length : Int) := by omega
      have hbl := hbel.size
      have hkk : k + 1 ≤ 70 := by omega
      obtain ⟨W1, hW1⟩ : ∃ W1, W1 = (wr.alloc (.cells #[.int .i64 K, .string sx, .int .i64 nx, .slice AK kx.length ck] 38)).drew := ⟨_, rfl⟩
      have hbx : Below wr.heap.size wr W1 := by rw [hW1]; exact (below_alloc wr _).trans ((below_drew _ 1).mono (below_alloc wr _).size)
      have hob : W1.heap[wr.heap.size]? = some (.cells #[.int .i64 K, .string sx, .int .i64 nx, .slice AK kx.length ck] 38 (0, 0)) := by rw [hW1]; exact heap_alloc_new wr _
      have HI1 := Lib.hid (hI.out.below hbx)
      have HOB := Lib.hid hob
      have HW1 := Lib.hid hW1
      have o0 := cell_box hob 0 _ rfl
      have o1 := cell_box hob 1 _ rfl
      have o2 := cell_box hob 2 _ rfl
      have o3 := cell_box hob 3 _ rfl
      have hbs : (rsum sx.data.toList : Int) = (rsum sx.data.toList : Int) := rfl
      have hss : ((rsum sx.data.toList : Int) != (rsum sx.data.toList : Int)) = false := by simp
      have hee : (c != c) = false := by simp
      clear hob hbx hW1 hbel hI hbs
      go_wp2
      go_region_law (first
        | (go_simp; go_at_call 10; (with_reducible refine (jsum_any sx _ (by omega)).mono ?_); rintro e w7 ⟨rfl, rfl⟩)
        | (go_simp; go_at_call 11; (with_reducible refine (qsum_any sx _ (by omega)).mono ?_); rintro e w7 ⟨rfl, rfl⟩))
      all_goals
        rw [← HW1.out]
        clear HW1 v0 v1 v2 v3 hss
        generalize wr.heap.size = bo at *
        clear hbl
        by_cases h0 : K = 0
        · subst h0
          rcases HI1.out.shape with ⟨hj, hq⟩ | ⟨rj, rk, hj, hq⟩
          · subst hj
            subst hq
            have HN1 := Lib.hid HI1.out.next
            clear HI1
            go_wp2
            go_roundw
            case rel => exact ⟨k + 1, c, by omega, by go_num, rfl, rfl, HN1⟩
            case measure => simp [intOf]; omega
          · subst hj
            subst hq
            go_wp2_with fail
            refine (jt_append HI1.out hkk HT.out sx f1).mono ?_
            rintro e w8 ⟨c8, rfl, ok8, q8⟩
            have OB8 := ok8 _ _ _ HOB.out
            have p1 := cell_box OB8 1 _ rfl
            have Q8 := Lib.hid q8
            have hee8 : (c8 != c8) = false := by simp
            clear q8 ok8 OB8 o0 o1 o2 o3 HI1 HOB
            go_wp2_with fail
            refine Q8.out.mono ?_
            rintro e w9 ⟨rfl, _, h9⟩
            have HI9 := Lib.hid h9
            clear h9 Q8 p1 hee
            obtain ⟨L9, d9, n9, g1, g2, ⟨g3, _⟩ | ⟨rj', v9, rk', R9, bad9, g3, g4, g5, g6, g7⟩⟩ := HI9.out
            · cases g3
            cases g3
            cases g4
            have hRl9 : R9.length ≤ (forms R9).length := forms_count
            obtain ⟨Ak, ckk, kk0, kk1, kk2, kk3, kkz, kkr⟩ := g6.cells
            have hkl := g6.lt
            obtain ⟨_, _, hke, hkt⟩ := TRow.of_own (O := fun _ => False) kkr (fun _ _ h => h)
            cases hke
            have HALL : Hid (∀ w', Below w9.heap.size w9 w' → Calls Tryz.prog 25 #[.pointer (some ⟨rj, 0, none⟩)] w' (AllIs R9 w')) := Lib.hid (fun w' hb => all_is (g5.below hb) (by omega))
            have HKT : Hid (∀ w', Below w9.heap.size w9 w' → TRow (fun _ => False) w' Ak R9) := Lib.hid (fun w' hb => hkt.below hb)
            have HRL : Hid (R9.length ≤ 1099511627776) := Lib.hid (by omega)
            have E5 : Hid (P44 rk (.slice Ak R9.length ckk) w9 w9) := Lib.hid ⟨hkl, kk2, Lib.hid (Below.refl _ _)⟩
            clear g1 g2 g5 g6 g7 kk0 kk1 kk3 kkz kkr hkt hRl9 hkl
            go_upto_region 44 with fail
            refine wp_region_held_drew (S := (fun w' => rk < w'.heap.size ∧ w'.cell? ⟨rk, 2, none⟩ = some (.slice Ak R9.length ckk) ∧ Hid (Below w9.heap.size w9 w'))) (by kernel_rfl) ?_ (fun hHeld => ?_)
            · exact P44.drewN E5.out 1
            refine wpAnyH_take (i := 0) (oi := { dst := some 145, op := Go.Op.move (Go.Operand.tmp 6), type := 29, pos := "law.go:109", after := #[], guard := none }) (v := ?_) rfl (by kernel_rfl) (by kernel_rfl) (by kernel_rfl) (fun _ _ _ h => h) (Or.inl ⟨by rfl, ?_⟩) (by assumption) ?_
            rotate_left
            · (intro w hSw; (try dsimp only at hSw); go_simp); try with_reducible rfl
            try simp only [Act.put, List.setIfInBounds_toArray, List.set_cons_zero, List.set_cons_succ]
            refine wpAnyH_take (i := 1) (oi := { dst := some 146, op := Go.Op.binOp Go.BinOp.neq 29 (Go.Operand.tmp 145) (Go.Operand.const (Go.Value.pointer none)) 29, type := 4, pos := "law.go:109", after := #[{ on := 0, ground := Go.Ground.data }], guard := none }) (v := ?_) rfl (by kernel_rfl) (by kernel_rfl) (by kernel_rfl) (fun _ _ _ h => h) (Or.inl ⟨by rfl, ?_⟩) (by assumption) ?_
            rotate_left
            · (intro w hSw; (try dsimp only at hSw); go_simp); try with_reducible rfl
            try simp only [Act.put, List.setIfInBounds_toArray, List.set_cons_zero, List.set_cons_succ]
            refine wpAnyH_take (i := 2) (oi := { dst := some 147, op := Go.Op.move (Go.Operand.tmp 146), type := 4, pos := "law.go:109", after := #[{ on := 1, ground := Go.Ground.data }], guard := none }) (v := ?_) rfl (by kernel_rfl) (by kernel_rfl) (by kernel_rfl) (fun _ _ _ h => h) (Or.inl ⟨by rfl, ?_⟩) (by assumption) ?_
            rotate_left
            · (intro w hSw; (try dsimp only at hSw); go_simp); try with_reducible rfl
            try simp only [Act.put, List.setIfInBounds_toArray, List.set_cons_zero, List.set_cons_succ]
            refine wpAnyH_take (i := 3) (oi := { dst := some 148, op := Go.Op.move (Go.Operand.tmp 8), type := 33, pos := "law.go:109", after := #[{ on := 2, ground := Go.Ground.guard }], guard := some (2, true) }) (v := ?_) rfl (by kernel_rfl) (by kernel_rfl) (by kernel_rfl) (fun _ _ _ h => h) (Or.inl ⟨by rfl, ?_⟩) (by assumption) ?_
            rotate_left
            · (intro w hSw; (try dsimp only at hSw); go_simp); try with_reducible rfl
            try simp only [Act.put, List.setIfInBounds_toArray, List.set_cons_zero, List.set_cons_succ]
            refine wpAnyH_take (i := 4) (oi := { dst := some 149, op := Go.Op.binOp Go.BinOp.neq 33 (Go.Operand.tmp 148) (Go.Operand.const (Go.Value.pointer none)) 33, type := 4, pos := "law.go:109", after := #[{ on := 3, ground := Go.Ground.data }, { on := 2, ground := Go.Ground.guard }], guard := some (2, true) }) (v := ?_) rfl (by kernel_rfl) (by kernel_rfl) (by kernel_rfl) (fun _ _ _ h => h) (Or.inl ⟨by rfl, ?_⟩) (by assumption) ?_
            rotate_left
            · (intro w hSw; (try dsimp only at hSw); go_simp); try with_reducible rfl
            try simp only [Act.put, List.setIfInBounds_toArray, List.set_cons_zero, List.set_cons_succ]
            refine wpAnyH_take (i := 5) (oi := { dst := some 150, op := Go.Op.pick (Go.Operand.tmp 147) (Go.Operand.tmp 149) (Go.Operand.const (Go.Value.bool false)), type := 4, pos := "law.go:109", after := #[{ on := 2, ground := Go.Ground.data }, { on := 4, ground := Go.Ground.data }], guard := none }) (v := ?_) rfl (by kernel_rfl) (by kernel_rfl) (by kernel_rfl) (fun _ _ _ h => h) (Or.inl ⟨by rfl, ?_⟩) (by assumption) ?_
            rotate_left
            · (intro w hSw; (try dsimp only at hSw); go_simp); try with_reducible rfl
            try simp only [Act.put, List.setIfInBounds_toArray, List.set_cons_zero, List.set_cons_succ]
            refine wpAnyH_take (i := 6) (oi := { dst := some 151, op := Go.Op.move (Go.Operand.tmp 150), type := 4, pos := "law.go:109", after := #[{ on := 5, ground := Go.Ground.data }, { on := 2, ground := Go.Ground.chain }], guard := none }) (v := ?_) rfl (by kernel_rfl) (by kernel_rfl) (by kernel_rfl) (fun _ _ _ h => h) (Or.inl ⟨by rfl, ?_⟩) (by assumption) ?_
            rotate_left
            · (intro w hSw; (try dsimp only at hSw); go_simp); try with_reducible rfl
            try simp only [Act.put, List.setIfInBounds_toArray, List.set_cons_zero, List.set_cons_succ]
            refine wpAnyH_take (i := 7) (oi := { dst := some 152, op := Go.Op.move (Go.Operand.tmp 6), type := 29, pos := "law.go:109", after := #[{ on := 6, ground := Go.Ground.guard }], guard := some (6, true) }) (v := ?_) rfl (by kernel_rfl) (by kernel_rfl) (by kernel_rfl) (fun _ _ _ h => h) (Or.inl ⟨by rfl, ?_⟩) (by assumption) ?_
            rotate_left
            · (intro w hSw; (try dsimp only at hSw); go_simp); try with_reducible rfl
            try simp only [Act.put, List.setIfInBounds_toArray, List.set_cons_zero, List.set_cons_succ]
            refine wpAnyH_take (i := 9) (oi := { dst := some 154, op := Go.Op.move (Go.Operand.tmp 8), type := 33, pos := "law.go:109", after := #[{ on := 6, ground := Go.Ground.guard }], guard := some (6, true) }) (v := ?_) rfl (by kernel_rfl) (by kernel_rfl) (by kernel_rfl) (fun _ _ _ h => h) (Or.inl ⟨by rfl, ?_⟩) (by assumption) ?_
            rotate_left
            · (intro w hSw; (try dsimp only at hSw); go_simp); try with_reducible rfl
            try simp only [Act.put, List.setIfInBounds_toArray, List.set_cons_zero, List.set_cons_succ]
            refine wpAnyH_take (i := 10) (oi := { dst := some 155, op := Go.Op.nilCheck (Go.Operand.tmp 154), type := 0, pos := "law.go:109", after := #[{ on := 9, ground := Go.Ground.data }, { on := 6, ground := Go.Ground.guard }], guard := some (6, true) }) (v := ?_) rfl (by kernel_rfl) (by kernel_rfl) (by kernel_rfl) (fun _ _ _ h => h) (Or.inl ⟨by rfl, ?_⟩) (by assumption) ?_
            rotate_left
            · (intro w hSw; (try dsimp only at hSw); go_simp); try with_reducible rfl
            try simp only [Act.put, List.setIfInBounds_toArray, List.set_cons_zero, List.set_cons_succ]
            refine wpAnyH_take (i := 11) (oi := { dst := some 156, op := Go.Op.fieldAddr 49 (Go.Operand.tmp 155) 2, type := 0, pos := "law.go:109", after := #[{ on := 10, ground := Go.Ground.data }, { on := 6, ground := Go.Ground.guard }], guard := some (6, true) }) (v := ?_) rfl (by kernel_rfl) (by kernel_rfl) (by kernel_rfl) (fun _ _ _ h => h) (Or.inl ⟨by rfl, ?_⟩) (by assumption) ?_
            rotate_left
            · (intro w hSw; (try dsimp only at hSw); go_simp); try with_reducible rfl
            try simp only [Act.put, List.setIfInBounds_toArray, List.set_cons_zero, List.set_cons_succ]
            refine wpAnyH_take (i := 12) (oi := { dst := some 157, op := Go.Op.load 46 (Go.Operand.tmp 156), type := 46, pos := "law.go:109", after := #[{ on := 11, ground := Go.Ground.data }, { on := 6, ground := Go.Ground.guard }], guard := some (6, true) }) (v := ?_) rfl (by kernel_rfl) (by kernel_rfl) (by kernel_rfl) (fun _ _ _ h => h) (Or.inl ⟨by rfl, ?_⟩) (by assumption) ?_
            rotate_left
            · (intro w hSw; (try dsimp only at hSw); go_simp); try with_reducible rfl
            try simp only [Act.put, List.setIfInBounds_toArray, List.set_cons_zero, List.set_cons_succ]
            refine wpAnyH_ready (rs := [8]) (by kernel_rfl) (by simp) ?_
            refine (AllReadyH.cons (o := { dst := some 153, op := Go.Op.call { callee := Go.Callee.value (Go.Operand.func 25), args := #[Go.Operand.tmp 152], argTypes := #[29] }, type := 46, pos := "law.go:109", after := #[{ on := 7, ground := Go.Ground.data }, { on := 6, ground := Go.Ground.chain }, { on := 6, ground := Go.Ground.guard }], guard := some (6, true) }) rfl (fun K0 hK => ?_) AllReadyH.nil)
            have hbq9 := P44.bel (rk := rk) (u := .slice Ak R9.length ckk) (w0 := w9) hHeld
            go_simp
            go_at_call 25
            with_reducible refine Calls.mono (HALL.out _ hbq9) ?_
            rintro e w98 ⟨Aa, ca, rfl, ta, hb⟩
            have TA := Lib.hid ta
            clear ta
            try go_wp2_with fail
            refine hK.out _ _ (P44.go (rk := rk) (u := .slice Ak R9.length ckk) (w0 := w9) (by assumption) hb) (fun hHeld2 => ?_)
            clear hK K0 hHeld hb hbq9
            have hHeld := hHeld2; clear hHeld2
            try simp only [Act.put, List.setIfInBounds_toArray, List.set_cons_zero, List.set_cons_succ]
            refine wpAnyH_ready (rs := [13]) (by kernel_rfl) (by simp) ?_
            refine (AllReadyH.cons (o := { dst := some 158, op := Go.Op.call { callee := Go.Callee.value (Go.Operand.func 24), args := #[Go.Operand.tmp 153, Go.Operand.tmp 157], argTypes := #[46, 46] }, type := 4, pos := "law.go:109", after := #[{ on := 8, ground := Go.Ground.data }, { on := 12, ground := Go.Ground.data }, { on := 8, ground := Go.Ground.chain }, { on := 6, ground := Go.Ground.guard }], guard := some (6, true) }) rfl (fun K1 hK => ?_) AllReadyH.nil)
            have hbq9 := P44.bel (rk := rk) (u := .slice Ak R9.length ckk) (w0 := w9) hHeld
            go_simp
            go_at_call 24
            with_reducible refine Calls.mono (sameT_any Aa ca Ak ckk R9 _ TA.out (HKT.out _ hbq9) HRL.out) ?_
            rintro e w913 ⟨rfl, hb⟩
            try go_wp2_with fail
            refine hK.out _ _ (P44.go (rk := rk) (u := .slice Ak R9.length ckk) (w0 := w9) (by assumption) hb) (fun hHeld2 => ?_)
            clear hK K1 hHeld hb hbq9
            have hHeld := hHeld2; clear hHeld2
            try simp only [Act.put, List.setIfInBounds_toArray, List.set_cons_zero, List.set_cons_succ]
            refine wpAnyH_take (i := 14) (oi := { dst := some 159, op := Go.Op.unOp Go.UnOp.not 4 (Go.Operand.tmp 158), type := 4, pos := "law.go:109", after := #[{ on := 13, ground := Go.Ground.data }, { on := 6, ground := Go.Ground.guard }], guard := some (6, true) }) (v := ?_) rfl (by kernel_rfl) (by kernel_rfl) (by kernel_rfl) (fun _ _ _ h => h) (Or.inl ⟨by rfl, ?_⟩) (by assumption) ?_
            rotate_left
            · (intro w hSw; (try dsimp only at hSw); go_simp); try with_reducible rfl
            try simp only [Act.put, List.setIfInBounds_toArray, List.set_cons_zero, List.set_cons_succ]
            refine wpAnyH_take (i := 15) (oi := { dst := some 160, op := Go.Op.pick (Go.Operand.tmp 151) (Go.Operand.tmp 159) (Go.Operand.const (Go.Value.bool false)), type := 4, pos := "law.go:109", after := #[{ on := 6, ground := Go.Ground.data }, { on := 14, ground := Go.Ground.data }], guard := none }) (v := ?_) rfl (by kernel_rfl) (by kernel_rfl) (by kernel_rfl) (fun _ _ _ h => h) (Or.inl ⟨by rfl, ?_⟩) (by assumption) ?_
            rotate_left
            · (intro w hSw; (try dsimp only at hSw); go_simp); try with_reducible rfl
            try simp only [Act.put, List.setIfInBounds_toArray, List.set_cons_zero, List.set_cons_succ]
            refine wpAnyH_done (by kernel_rfl) ?_ _
            have HNB := Lib.hid (HI9.out.below (P44.bel (rk := rk) (u := .slice Ak R9.length ckk) (w0 := w9) hHeld))
            clear hHeld HI9
            go_wp2
            go_roundw
            case rel => exact ⟨k + 1, c8, by omega, by go_num, rfl, rfl, HNB⟩
            case measure => simp [intOf]; omega
        by_cases h1 : K = 1
        · subst h1
          rcases HI1.out.shape with ⟨hj, hq⟩ | ⟨rj, rk, hj, hq⟩
          · subst hj
            subst hq
            have HN1 := Lib.hid HI1.out.next
            clear HI1
            go_wp2
            go_roundw
            case rel => exact ⟨k + 1, c, by omega, by go_num, rfl, rfl, HN1⟩
            case measure => simp [intOf]; omega
          · subst hj
            subst hq
            go_wp2_with fail
            refine (jt_sync HI1.out hkk).mono ?_
            rintro e w8 ⟨c8, rfl, ok8, q8⟩
            have OB8 := ok8 _ _ _ HOB.out
            have p1 := cell_box OB8 1 _ rfl
            have Q8 := Lib.hid q8
            have hee8 : (c8 != c8) = false := by simp
            clear q8 ok8 OB8 o0 o1 o2 o3 HI1 HOB
            go_wp2_with fail
            refine Q8.out.mono ?_
            rintro e w9 ⟨rfl, _, h9⟩
            have HI9 := Lib.hid h9
            clear h9 Q8 p1 hee
            obtain ⟨L9, d9, n9, g1, g2, ⟨g3, _⟩ | ⟨rj', v9, rk', R9, bad9, g3, g4, g5, g6, g7⟩⟩ := HI9.out
            · cases g3
            cases g3
            cases g4
            have hRl9 : R9.length ≤ (forms R9).length := forms_count
            obtain ⟨Ak, ckk, kk0, kk1, kk2, kk3, kkz, kkr⟩ := g6.cells
            have hkl := g6.lt
            obtain ⟨_, _, hke, hkt⟩ := TRow.of_own (O := fun _ => False) kkr (fun _ _ h => h)
            cases hke
            have HALL : Hid (∀ w', Below w9.heap.size w9 w' → Calls Tryz.prog 25 #[.pointer (some ⟨rj, 0, none⟩)] w' (AllIs R9 w')) := Lib.hid (fun w' hb => all_is (g5.below hb) (by omega))
            have HKT : Hid (∀ w', Below w9.heap.size w9 w' → TRow (fun _ => False) w' Ak R9) := Lib.hid (fun w' hb => hkt.below hb)
            have HRL : Hid (R9.length ≤ 1099511627776) := Lib.hid (by omega)
            have E5 : Hid (P44 rk (.slice Ak R9.length ckk) w9 w9) := Lib.hid ⟨hkl, kk2, Lib.hid (Below.refl _ _)⟩
            clear g1 g2 g5 g6 g7 kk0 kk1 kk3 kkz kkr hkt hRl9 hkl
            go_upto_region 44 with fail
            refine wp_region_held_drew (S := (fun w' => rk < w'.heap.size ∧ w'.cell? ⟨rk, 2, none⟩ = some (.slice Ak R9.length ckk) ∧ Hid (Below w9.heap.size w9 w'))) (by kernel_rfl) ?_ (fun hHeld => ?_)
            · exact P44.drewN E5.out 1
            refine wpAnyH_take (i := 0) (oi := { dst := some 145, op := Go.Op.move (Go.Operand.tmp 6), type := 29, pos := "law.go:109", after := #[], guard := none }) (v := ?_) rfl (by kernel_rfl) (by kernel_rfl) (by kernel_rfl) (fun _ _ _ h => h) (Or.inl ⟨by rfl, ?_⟩) (by assumption) ?_
            rotate_left
            · (intro w hSw; (try dsimp only at hSw); go_simp); try with_reducible rfl
            try simp only [Act.put, List.setIfInBounds_toArray, List.set_cons_zero, List.set_cons_succ]
            refine wpAnyH_take (i := 1) (oi := { dst := some 146, op := Go.Op.binOp Go.BinOp.neq 29 (Go.Operand.tmp 145) (Go.Operand.const (Go.Value.pointer none)) 29, type := 4, pos := "law.go:109", after := #[{ on := 0, ground := Go.Ground.data }], guard := none }) (v := ?_) rfl (by kernel_rfl) (by kernel_rfl) (by kernel_rfl) (fun _ _ _ h => h) (Or.inl ⟨by rfl, ?_⟩) (by assumption) ?_
            rotate_left
            · (intro w hSw; (try dsimp only at hSw); go_simp); try with_reducible rfl
            try simp only [Act.put, List.setIfInBounds_toArray, List.set_cons_zero, List.set_cons_succ]
            refine wpAnyH_take (i := 2) (oi := { dst := some 147, op := Go.Op.move (Go.Operand.tmp 146), type := 4, pos := "law.go:109", after := #[{ on := 1, ground := Go.Ground.data }], guard := none }) (v := ?_) rfl (by kernel_rfl) (by kernel_rfl) (by kernel_rfl) (fun _ _ _ h => h) (Or.inl ⟨by rfl, ?_⟩) (by assumption) ?_
            rotate_left
            · (intro w hSw; (try dsimp only at hSw); go_simp); try with_reducible rfl
            try simp only [Act.put, List.setIfInBounds_toArray, List.set_cons_zero, List.set_cons_succ]
            refine wpAnyH_take (i := 3) (oi := { dst := some 148, op := Go.Op.move (Go.Operand.tmp 8), type := 33, pos := "law.go:109", after := #[{ on := 2, ground := Go.Ground.guard }], guard := some (2, true) }) (v := ?_) rfl (by kernel_rfl) (by kernel_rfl) (by kernel_rfl) (fun _ _ _ h => h) (Or.inl ⟨by rfl, ?_⟩) (by assumption) ?_
            rotate_left
            · (intro w hSw; (try dsimp only at hSw); go_simp); try with_reducible rfl
            try simp only [Act.put, List.setIfInBounds_toArray, List.set_cons_zero, List.set_cons_succ]
            refine wpAnyH_take (i := 4) (oi := { dst := some 149, op := Go.Op.binOp Go.BinOp.neq 33 (Go.Operand.tmp 148) (Go.Operand.const (Go.Value.pointer none)) 33, type := 4, pos := "law.go:109", after := #[{ on := 3, ground := Go.Ground.data }, { on := 2, ground := Go.Ground.guard }], guard := some (2, true) }) (v := ?_) rfl (by kernel_rfl) (by kernel_rfl) (by kernel_rfl) (fun _ _ _ h => h) (Or.inl ⟨by rfl, ?_⟩) (by assumption) ?_
            rotate_left
            · (intro w hSw; (try dsimp only at hSw); go_simp); try with_reducible rfl
            try simp only [Act.put, List.setIfInBounds_toArray, List.set_cons_zero, List.set_cons_succ]
            refine wpAnyH_take (i := 5) (oi := { dst := some 150, op := Go.Op.pick (Go.Operand.tmp 147) (Go.Operand.tmp 149) (Go.Operand.const (Go.Value.bool false)), type := 4, pos := "law.go:109", after := #[{ on := 2, ground := Go.Ground.data }, { on := 4, ground := Go.Ground.data }], guard := none }) (v := ?_) rfl (by kernel_rfl) (by kernel_rfl) (by kernel_rfl) (fun _ _ _ h => h) (Or.inl ⟨by rfl, ?_⟩) (by assumption) ?_
            rotate_left
            · (intro w hSw; (try dsimp only at hSw); go_simp); try with_reducible rfl
            try simp only [Act.put, List.setIfInBounds_toArray, List.set_cons_zero, List.set_cons_succ]
            refine wpAnyH_take (i := 6) (oi := { dst := some 151, op := Go.Op.move (Go.Operand.tmp 150), type := 4, pos := "law.go:109", after := #[{ on := 5, ground := Go.Ground.data }, { on := 2, ground := Go.Ground.chain }], guard := none }) (v := ?_) rfl (by kernel_rfl) (by kernel_rfl) (by kernel_rfl) (fun _ _ _ h => h) (Or.inl ⟨by rfl, ?_⟩) (by assumption) ?_
            rotate_left
            · (intro w hSw; (try dsimp only at hSw); go_simp); try with_reducible rfl
            try simp only [Act.put, List.setIfInBounds_toArray, List.set_cons_zero, List.set_cons_succ]
            refine wpAnyH_take (i := 7) (oi := { dst := some 152, op := Go.Op.move (Go.Operand.tmp 6), type := 29, pos := "law.go:109", after := #[{ on := 6, ground := Go.Ground.guard }], guard := some (6, true) }) (v := ?_) rfl (by kernel_rfl) (by kernel_rfl) (by kernel_rfl) (fun _ _ _ h => h) (Or.inl ⟨by rfl, ?_⟩) (by assumption) ?_
            rotate_left
            · (intro w hSw; (try dsimp only at hSw); go_simp); try with_reducible rfl
            try simp only [Act.put, List.setIfInBounds_toArray, List.set_cons_zero, List.set_cons_succ]
            refine wpAnyH_take (i := 9) (oi := { dst := some 154, op := Go.Op.move (Go.Operand.tmp 8), type := 33, pos := "law.go:109", after := #[{ on := 6, ground := Go.Ground.guard }], guard := some (6, true) }) (v := ?_) rfl (by kernel_rfl) (by kernel_rfl) (by kernel_rfl) (fun _ _ _ h => h) (Or.inl ⟨by rfl, ?_⟩) (by assumption) ?_
            rotate_left
            · (intro w hSw; (try dsimp only at hSw); go_simp); try with_reducible rfl
            try simp only [Act.put, List.setIfInBounds_toArray, List.set_cons_zero, List.set_cons_succ]
            refine wpAnyH_take (i := 10) (oi := { dst := some 155, op := Go.Op.nilCheck (Go.Operand.tmp 154), type := 0, pos := "law.go:109", after := #[{ on := 9, ground := Go.Ground.data }, { on := 6, ground := Go.Ground.guard }], guard := some (6, true) }) (v := ?_) rfl (by kernel_rfl) (by kernel_rfl) (by kernel_rfl) (fun _ _ _ h => h) (Or.inl ⟨by rfl, ?_⟩) (by assumption) ?_
            rotate_left
            · (intro w hSw; (try dsimp only at hSw); go_simp); try with_reducible rfl
            try simp only [Act.put, List.setIfInBounds_toArray, List.set_cons_zero, List.set_cons_succ]
            refine wpAnyH_take (i := 11) (oi := { dst := some 156, op := Go.Op.fieldAddr 49 (Go.Operand.tmp 155) 2, type := 0, pos := "law.go:109", after := #[{ on := 10, ground := Go.Ground.data }, { on := 6, ground := Go.Ground.guard }], guard := some (6, true) }) (v := ?_) rfl (by kernel_rfl) (by kernel_rfl) (by kernel_rfl) (fun _ _ _ h => h) (Or.inl ⟨by rfl, ?_⟩) (by assumption) ?_
            rotate_left
            · (intro w hSw; (try dsimp only at hSw); go_simp); try with_reducible rfl
            try simp only [Act.put, List.setIfInBounds_toArray, List.set_cons_zero, List.set_cons_succ]
            refine wpAnyH_take (i := 12) (oi := { dst := some 157, op := Go.Op.load 46 (Go.Operand.tmp 156), type := 46, pos := "law.go:109", after := #[{ on := 11, ground := Go.Ground.data }, { on := 6, ground := Go.Ground.guard }], guard := some (6, true) }) (v := ?_) rfl (by kernel_rfl) (by kernel_rfl) (by kernel_rfl) (fun _ _ _ h => h) (Or.inl ⟨by rfl, ?_⟩) (by assumption) ?_
            rotate_left
            · (intro w hSw; (try dsimp only at hSw); go_simp); try with_reducible rfl
            try simp only [Act.put, List.setIfInBounds_toArray, List.set_cons_zero, List.set_cons_succ]
            refine wpAnyH_ready (rs := [8]) (by kernel_rfl) (by simp) ?_
            refine (AllReadyH.cons (o := { dst := some 153, op := Go.Op.call { callee := Go.Callee.value (Go.Operand.func 25), args := #[Go.Operand.tmp 152], argTypes := #[29] }, type := 46, pos := "law.go:109", after := #[{ on := 7, ground := Go.Ground.data }, { on := 6, ground := Go.Ground.chain }, { on := 6, ground := Go.Ground.guard }], guard := some (6, true) }) rfl (fun K0 hK => ?_) AllReadyH.nil)
            have hbq9 := P44.bel (rk := rk) (u := .slice Ak R9.length ckk) (w0 := w9) hHeld
            go_simp
            go_at_call 25
            with_reducible refine Calls.mono (HALL.out _ hbq9) ?_
            rintro e w98 ⟨Aa, ca, rfl, ta, hb⟩
            have TA := Lib.hid ta
            clear ta
            try go_wp2_with fail
            refine hK.out _ _ (P44.go (rk := rk) (u := .slice Ak R9.length ckk) (w0 := w9) (by assumption) hb) (fun hHeld2 => ?_)
            clear hK K0 hHeld hb hbq9
            have hHeld := hHeld2; clear hHeld2
            try simp only [Act.put, List.setIfInBounds_toArray, List.set_cons_zero, List.set_cons_succ]
            refine wpAnyH_ready (rs := [13]) (by kernel_rfl) (by simp) ?_
            refine (AllReadyH.cons (o := { dst := some 158, op := Go.Op.call { callee := Go.Callee.value (Go.Operand.func 24), args := #[Go.Operand.tmp 153, Go.Operand.tmp 157], argTypes := #[46, 46] }, type := 4, pos := "law.go:109", after := #[{ on := 8, ground := Go.Ground.data }, { on := 12, ground := Go.Ground.data }, { on := 8, ground := Go.Ground.chain }, { on := 6, ground := Go.Ground.guard }], guard := some (6, true) }) rfl (fun K1 hK => ?_) AllReadyH.nil)
            have hbq9 := P44.bel (rk := rk) (u := .slice Ak R9.length ckk) (w0 := w9) hHeld
            go_simp
            go_at_call 24
            with_reducible refine Calls.mono (sameT_any Aa ca Ak ckk R9 _ TA.out (HKT.out _ hbq9) HRL.out) ?_
            rintro e w913 ⟨rfl, hb⟩
            try go_wp2_with fail
            refine hK.out _ _ (P44.go (rk := rk) (u := .slice Ak R9.length ckk) (w0 := w9) (by assumption) hb) (fun hHeld2 => ?_)
            clear hK K1 hHeld hb hbq9
            have hHeld := hHeld2; clear hHeld2
            try simp only [Act.put, List.setIfInBounds_toArray, List.set_cons_zero, List.set_cons_succ]
            refine wpAnyH_take (i := 14) (oi := { dst := some 159, op := Go.Op.unOp Go.UnOp.not 4 (Go.Operand.tmp 158), type := 4, pos := "law.go:109", after := #[{ on := 13, ground := Go.Ground.data }, { on := 6, ground := Go.Ground.guard }], guard := some (6, true) }) (v := ?_) rfl (by kernel_rfl) (by kernel_rfl) (by kernel_rfl) (fun _ _ _ h => h) (Or.inl ⟨by rfl, ?_⟩) (by assumption) ?_
            rotate_left
            · (intro w hSw; (try dsimp only at hSw); go_simp); try with_reducible rfl
            try simp only [Act.put, List.setIfInBounds_toArray, List.set_cons_zero, List.set_cons_succ]
            refine wpAnyH_take (i := 15) (oi := { dst := some 160, op := Go.Op.pick (Go.Operand.tmp 151) (Go.Operand.tmp 159) (Go.Operand.const (Go.Value.bool false)), type := 4, pos := "law.go:109", after := #[{ on := 6, ground := Go.Ground.data }, { on := 14, ground := Go.Ground.data }], guard := none }) (v := ?_) rfl (by kernel_rfl) (by kernel_rfl) (by kernel_rfl) (fun _ _ _ h => h) (Or.inl ⟨by rfl, ?_⟩) (by assumption) ?_
            rotate_left
            · (intro w hSw; (try dsimp only at hSw); go_simp); try with_reducible rfl
            try simp only [Act.put, List.setIfInBounds_toArray, List.set_cons_zero, List.set_cons_succ]
            refine wpAnyH_done (by kernel_rfl) ?_ _
            have HNB := Lib.hid (HI9.out.below (P44.bel (rk := rk) (u := .slice Ak R9.length ckk) (w0 := w9) hHeld))
            clear hHeld HI9
            go_wp2
            go_roundw
            case rel => exact ⟨k + 1, c8, by omega, by go_num, rfl, rfl, HNB⟩
            case measure => simp [intOf]; omega
        by_cases h2 : K = 2
        · subst h2
          go_wp2_with fail
          refine (jt_lose HI1.out hkk HXO.out.n).mono ?_
          rintro e w8 ⟨rfl, ok8, q8⟩
          have OB8 := ok8 _ _ _ HOB.out
          have p2 := cell_box OB8 2 _ rfl
          have p3 := cell_box OB8 3 _ rfl
          have Q8 := Lib.hid q8
          clear q8 ok8 OB8 o0 o1 o2 o3 HI1 HOB
          go_wp2_with fail
          refine Q8.out.mono ?_
          rintro e w9 ⟨rfl, _, h9⟩
          have HI9 := Lib.hid h9
          clear h9 Q8 p2 p3
          rcases HI9.out.shape with ⟨hj9, hq9⟩ | ⟨rj9, rk9, hj9, hq9⟩
          · subst hj9
            subst hq9
            go_upto_region 44 with fail
            refine wp_region_held_drew (S := (fun w' => Hid (Below w9.heap.size w9 w'))) (by kernel_rfl) ?_ (fun hHeld => ?_)
            · exact Lib.hid (below_drew w9 1)
            refine wpAnyH_take (i := 0) (oi := { dst := some 145, op := Go.Op.move (Go.Operand.tmp 6), type := 29, pos := "law.go:109", after := #[], guard := none }) (v := ?_) rfl (by kernel_rfl) (by kernel_rfl) (by kernel_rfl) (fun _ _ _ h => h) (Or.inl ⟨by rfl, ?_⟩) (by assumption) ?_
            rotate_left
            · (intro w hSw; (try dsimp only at hSw); go_simp); try with_reducible rfl
            try simp only [Act.put, List.setIfInBounds_toArray, List.set_cons_zero, List.set_cons_succ]
            refine wpAnyH_take (i := 1) (oi := { dst := some 146, op := Go.Op.binOp Go.BinOp.neq 29 (Go.Operand.tmp 145) (Go.Operand.const (Go.Value.pointer none)) 29, type := 4, pos := "law.go:109", after := #[{ on := 0, ground := Go.Ground.data }], guard := none }) (v := ?_) rfl (by kernel_rfl) (by kernel_rfl) (by kernel_rfl) (fun _ _ _ h => h) (Or.inl ⟨by rfl, ?_⟩) (by assumption) ?_
            rotate_left
            · (intro w hSw; (try dsimp only at hSw); go_simp); try with_reducible rfl
            try simp only [Act.put, List.setIfInBounds_toArray, List.set_cons_zero, List.set_cons_succ]
            refine wpAnyH_take (i := 2) (oi := { dst := some 147, op := Go.Op.move (Go.Operand.tmp 146), type := 4, pos := "law.go:109", after := #[{ on := 1, ground := Go.Ground.data }], guard := none }) (v := ?_) rfl (by kernel_rfl) (by kernel_rfl) (by kernel_rfl) (fun _ _ _ h => h) (Or.inl ⟨by rfl, ?_⟩) (by assumption) ?_
            rotate_left
            · (intro w hSw; (try dsimp only at hSw); go_simp); try with_reducible rfl
            try simp only [Act.put, List.setIfInBounds_toArray, List.set_cons_zero, List.set_cons_succ]
            refine wpAnyH_take (i := 3) (oi := { dst := some 148, op := Go.Op.move (Go.Operand.tmp 8), type := 33, pos := "law.go:109", after := #[{ on := 2, ground := Go.Ground.guard }], guard := some (2, true) }) (v := undef) rfl (by kernel_rfl) (by kernel_rfl) (by kernel_rfl) (fun _ _ _ h => h) (Or.inr ⟨by rfl, by rfl⟩) (by assumption) ?_
            try simp only [Act.put, List.setIfInBounds_toArray, List.set_cons_zero, List.set_cons_succ]
            refine wpAnyH_take (i := 4) (oi := { dst := some 149, op := Go.Op.binOp Go.BinOp.neq 33 (Go.Operand.tmp 148) (Go.Operand.const (Go.Value.pointer none)) 33, type := 4, pos := "law.go:109", after := #[{ on := 3, ground := Go.Ground.data }, { on := 2, ground := Go.Ground.guard }], guard := some (2, true) }) (v := undef) rfl (by kernel_rfl) (by kernel_rfl) (by kernel_rfl) (fun _ _ _ h => h) (Or.inr ⟨by rfl, by rfl⟩) (by assumption) ?_
            try simp only [Act.put, List.setIfInBounds_toArray, List.set_cons_zero, List.set_cons_succ]
            refine wpAnyH_take (i := 5) (oi := { dst := some 150, op := Go.Op.pick (Go.Operand.tmp 147) (Go.Operand.tmp 149) (Go.Operand.const (Go.Value.bool false)), type := 4, pos := "law.go:109", after := #[{ on := 2, ground := Go.Ground.data }, { on := 4, ground := Go.Ground.data }], guard := none }) (v := ?_) rfl (by kernel_rfl) (by kernel_rfl) (by kernel_rfl) (fun _ _ _ h => h) (Or.inl ⟨by rfl, ?_⟩) (by assumption) ?_
            rotate_left
            · (intro w hSw; (try dsimp only at hSw); go_simp); try with_reducible rfl
            try simp only [Act.put, List.setIfInBounds_toArray, List.set_cons_zero, List.set_cons_succ]
            refine wpAnyH_take (i := 6) (oi := { dst := some 151, op := Go.Op.move (Go.Operand.tmp 150), type := 4, pos := "law.go:109", after := #[{ on := 5, ground := Go.Ground.data }, { on := 2, ground := Go.Ground.chain }], guard := none }) (v := ?_) rfl (by kernel_rfl) (by kernel_rfl) (by kernel_rfl) (fun _ _ _ h => h) (Or.inl ⟨by rfl, ?_⟩) (by assumption) ?_
            rotate_left
            · (intro w hSw; (try dsimp only at hSw); go_simp); try with_reducible rfl
            try simp only [Act.put, List.setIfInBounds_toArray, List.set_cons_zero, List.set_cons_succ]
            refine wpAnyH_take (i := 7) (oi := { dst := some 152, op := Go.Op.move (Go.Operand.tmp 6), type := 29, pos := "law.go:109", after := #[{ on := 6, ground := Go.Ground.guard }], guard := some (6, true) }) (v := undef) rfl (by kernel_rfl) (by kernel_rfl) (by kernel_rfl) (fun _ _ _ h => h) (Or.inr ⟨by rfl, by rfl⟩) (by assumption) ?_
            try simp only [Act.put, List.setIfInBounds_toArray, List.set_cons_zero, List.set_cons_succ]
            refine wpAnyH_take (i := 8) (oi := { dst := some 153, op := Go.Op.call { callee := Go.Callee.value (Go.Operand.func 25), args := #[Go.Operand.tmp 152], argTypes := #[29] }, type := 46, pos := "law.go:109", after := #[{ on := 7, ground := Go.Ground.data }, { on := 6, ground := Go.Ground.chain }, { on := 6, ground := Go.Ground.guard }], guard := some (6, true) }) (v := undef) rfl (by kernel_rfl) (by kernel_rfl) (by kernel_rfl) (fun _ _ _ h => h) (Or.inr ⟨by rfl, by rfl⟩) (by assumption) ?_
            try simp only [Act.put, List.setIfInBounds_toArray, List.set_cons_zero, List.set_cons_succ]
            refine wpAnyH_take (i := 9) (oi := { dst := some 154, op := Go.Op.move (Go.Operand.tmp 8), type := 33, pos := "law.go:109", after := #[{ on := 6, ground := Go.Ground.guard }], guard := some (6, true) }) (v := undef) rfl (by kernel_rfl) (by kernel_rfl) (by kernel_rfl) (fun _ _ _ h => h) (Or.inr ⟨by rfl, by rfl⟩) (by assumption) ?_
            try simp only [Act.put, List.setIfInBounds_toArray, List.set_cons_zero, List.set_cons_succ]
            refine wpAnyH_take (i := 10) (oi := { dst := some 155, op := Go.Op.nilCheck (Go.Operand.tmp 154), type := 0, pos := "law.go:109", after := #[{ on := 9, ground := Go.Ground.data }, { on := 6, ground := Go.Ground.guard }], guard := some (6, true) }) (v := undef) rfl (by kernel_rfl) (by kernel_rfl) (by kernel_rfl) (fun _ _ _ h => h) (Or.inr ⟨by rfl, by rfl⟩) (by assumption) ?_
            try simp only [Act.put, List.setIfInBounds_toArray, List.set_cons_zero, List.set_cons_succ]
            refine wpAnyH_take (i := 11) (oi := { dst := some 156, op := Go.Op.fieldAddr 49 (Go.Operand.tmp 155) 2, type := 0, pos := "law.go:109", after := #[{ on := 10, ground := Go.Ground.data }, { on := 6, ground := Go.Ground.guard }], guard := some (6, true) }) (v := undef) rfl (by kernel_rfl) (by kernel_rfl) (by kernel_rfl) (fun _ _ _ h => h) (Or.inr ⟨by rfl, by rfl⟩) (by assumption) ?_
            try simp only [Act.put, List.setIfInBounds_toArray, List.set_cons_zero, List.set_cons_succ]
            refine wpAnyH_take (i := 12) (oi := { dst := some 157, op := Go.Op.load 46 (Go.Operand.tmp 156), type := 46, pos := "law.go:109", after := #[{ on := 11, ground := Go.Ground.data }, { on := 6, ground := Go.Ground.guard }], guard := some (6, true) }) (v := undef) rfl (by kernel_rfl) (by kernel_rfl) (by kernel_rfl) (fun _ _ _ h => h) (Or.inr ⟨by rfl, by rfl⟩) (by assumption) ?_
            try simp only [Act.put, List.setIfInBounds_toArray, List.set_cons_zero, List.set_cons_succ]
            refine wpAnyH_take (i := 13) (oi := { dst := some 158, op := Go.Op.call { callee := Go.Callee.value (Go.Operand.func 24), args := #[Go.Operand.tmp 153, Go.Operand.tmp 157], argTypes := #[46, 46] }, type := 4, pos := "law.go:109", after := #[{ on := 8, ground := Go.Ground.data }, { on := 12, ground := Go.Ground.data }, { on := 8, ground := Go.Ground.chain }, { on := 6, ground := Go.Ground.guard }], guard := some (6, true) }) (v := undef) rfl (by kernel_rfl) (by kernel_rfl) (by kernel_rfl) (fun _ _ _ h => h) (Or.inr ⟨by rfl, by rfl⟩) (by assumption) ?_
            try simp only [Act.put, List.setIfInBounds_toArray, List.set_cons_zero, List.set_cons_succ]
            refine wpAnyH_take (i := 14) (oi := { dst := some 159, op := Go.Op.unOp Go.UnOp.not 4 (Go.Operand.tmp 158), type := 4, pos := "law.go:109", after := #[{ on := 13, ground := Go.Ground.data }, { on := 6, ground := Go.Ground.guard }], guard := some (6, true) }) (v := undef) rfl (by kernel_rfl) (by kernel_rfl) (by kernel_rfl) (fun _ _ _ h => h) (Or.inr ⟨by rfl, by rfl⟩) (by assumption) ?_
            try simp only [Act.put, List.setIfInBounds_toArray, List.set_cons_zero, List.set_cons_succ]
            refine wpAnyH_take (i := 15) (oi := { dst := some 160, op := Go.Op.pick (Go.Operand.tmp 151) (Go.Operand.tmp 159) (Go.Operand.const (Go.Value.bool false)), type := 4, pos := "law.go:109", after := #[{ on := 6, ground := Go.Ground.data }, { on := 14, ground := Go.Ground.data }], guard := none }) (v := ?_) rfl (by kernel_rfl) (by kernel_rfl) (by kernel_rfl) (fun _ _ _ h => h) (Or.inl ⟨by rfl, ?_⟩) (by assumption) ?_
            rotate_left
            · (intro w hSw; (try dsimp only at hSw); go_simp); try with_reducible rfl
            try simp only [Act.put, List.setIfInBounds_toArray, List.set_cons_zero, List.set_cons_succ]
            refine wpAnyH_done (by kernel_rfl) ?_ _
            have HNB := Lib.hid (HI9.out.below (Hid.out hHeld))
            clear hHeld HI9
            go_wp2
            go_roundw
            case rel => exact ⟨k + 1, c, by omega, by go_num, rfl, rfl, HNB⟩
            case measure => simp [intOf]; omega
          · subst hj9
            subst hq9
            obtain ⟨L9, d9, n9, g1, g2, ⟨g3, _⟩ | ⟨rj', v9, rk', R9, bad9, g3, g4, g5, g6, g7⟩⟩ := HI9.out
            · cases g3
            cases g3
            cases g4
            have hRl9 : R9.length ≤ (forms R9).length := forms_count
            obtain ⟨Ak, ckk, kk0, kk1, kk2, kk3, kkz, kkr⟩ := g6.cells
            have hkl := g6.lt
            obtain ⟨_, _, hke, hkt⟩ := TRow.of_own (O := fun _ => False) kkr (fun _ _ h => h)
            cases hke
            have HALL : Hid (∀ w', Below w9.heap.size w9 w' → Calls Tryz.prog 25 #[.pointer (some ⟨rj9, 0, none⟩)] w' (AllIs R9 w')) := Lib.hid (fun w' hb => all_is (g5.below hb) (by omega))
            have HKT : Hid (∀ w', Below w9.heap.size w9 w' → TRow (fun _ => False) w' Ak R9) := Lib.hid (fun w' hb => hkt.below hb)
            have HRL : Hid (R9.length ≤ 1099511627776) := Lib.hid (by omega)
            have E5 : Hid (P44 rk9 (.slice Ak R9.length ckk) w9 w9) := Lib.hid ⟨hkl, kk2, Lib.hid (Below.refl _ _)⟩
            clear g1 g2 g5 g6 g7 kk0 kk1 kk3 kkz kkr hkt hRl9 hkl
            go_upto_region 44 with fail
            refine wp_region_held_drew (S := (fun w' => rk9 < w'.heap.size ∧ w'.cell? ⟨rk9, 2, none⟩ = some (.slice Ak R9.length ckk) ∧ Hid (Below w9.heap.size w9 w'))) (by kernel_rfl) ?_ (fun hHeld => ?_)
            · exact P44.drewN E5.out 1
            refine wpAnyH_take (i := 0) (oi := { dst := some 145, op := Go.Op.move (Go.Operand.tmp 6), type := 29, pos := "law.go:109", after := #[], guard := none }) (v := ?_) rfl (by kernel_rfl) (by kernel_rfl) (by kernel_rfl) (fun _ _ _ h => h) (Or.inl ⟨by rfl, ?_⟩) (by assumption) ?_
            rotate_left
            · (intro w hSw; (try dsimp only at hSw); go_simp); try with_reducible rfl
            try simp only [Act.put, List.setIfInBounds_toArray, List.set_cons_zero, List.set_cons_succ]
            refine wpAnyH_take (i := 1) (oi := { dst := some 146, op := Go.Op.binOp Go.BinOp.neq 29 (Go.Operand.tmp 145) (Go.Operand.const (Go.Value.pointer none)) 29, type := 4, pos := "law.go:109", after := #[{ on := 0, ground := Go.Ground.data }], guard := none }) (v := ?_) rfl (by kernel_rfl) (by kernel_rfl) (by kernel_rfl) (fun _ _ _ h => h) (Or.inl ⟨by rfl, ?_⟩) (by assumption) ?_
            rotate_left
            · (intro w hSw; (try dsimp only at hSw); go_simp); try with_reducible rfl
            try simp only [Act.put, List.setIfInBounds_toArray, List.set_cons_zero, List.set_cons_succ]
            refine wpAnyH_take (i := 2) (oi := { dst := some 147, op := Go.Op.move (Go.Operand.tmp 146), type := 4, pos := "law.go:109", after := #[{ on := 1, ground := Go.Ground.data }], guard := none }) (v := ?_) rfl (by kernel_rfl) (by kernel_rfl) (by kernel_rfl) (fun _ _ _ h => h) (Or.inl ⟨by rfl, ?_⟩) (by assumption) ?_
            rotate_left
            · (intro w hSw; (try dsimp only at hSw); go_simp); try with_reducible rfl
            try simp only [Act.put, List.setIfInBounds_toArray, List.set_cons_zero, List.set_cons_succ]
            refine wpAnyH_take (i := 3) (oi := { dst := some 148, op := Go.Op.move (Go.Operand.tmp 8), type := 33, pos := "law.go:109", after := #[{ on := 2, ground := Go.Ground.guard }], guard := some (2, true) }) (v := ?_) rfl (by kernel_rfl) (by kernel_rfl) (by kernel_rfl) (fun _ _ _ h => h) (Or.inl ⟨by rfl, ?_⟩) (by assumption) ?_
            rotate_left
            · (intro w hSw; (try dsimp only at hSw); go_simp); try with_reducible rfl
            try simp only [Act.put, List.setIfInBounds_toArray, List.set_cons_zero, List.set_cons_succ]
            refine wpAnyH_take (i := 4) (oi := { dst := some 149, op := Go.Op.binOp Go.BinOp.neq 33 (Go.Operand.tmp 148) (Go.Operand.const (Go.Value.pointer none)) 33, type := 4, pos := "law.go:109", after := #[{ on := 3, ground := Go.Ground.data }, { on := 2, ground := Go.Ground.guard }], guard := some (2, true) }) (v := ?_) rfl (by kernel_rfl) (by kernel_rfl) (by kernel_rfl) (fun _ _ _ h => h) (Or.inl ⟨by rfl, ?_⟩) (by assumption) ?_
            rotate_left
            · (intro w hSw; (try dsimp only at hSw); go_simp); try with_reducible rfl
            try simp only [Act.put, List.setIfInBounds_toArray, List.set_cons_zero, List.set_cons_succ]
            refine wpAnyH_take (i := 5) (oi := { dst := some 150, op := Go.Op.pick (Go.Operand.tmp 147) (Go.Operand.tmp 149) (Go.Operand.const (Go.Value.bool false)), type := 4, pos := "law.go:109", after := #[{ on := 2, ground := Go.Ground.data }, { on := 4, ground := Go.Ground.data }], guard := none }) (v := ?_) rfl (by kernel_rfl) (by kernel_rfl) (by kernel_rfl) (fun _ _ _ h => h) (Or.inl ⟨by rfl, ?_⟩) (by assumption) ?_
            rotate_left
            · (intro w hSw; (try dsimp only at hSw); go_simp); try with_reducible rfl
            try simp only [Act.put, List.setIfInBounds_toArray, List.set_cons_zero, List.set_cons_succ]
            refine wpAnyH_take (i := 6) (oi := { dst := some 151, op := Go.Op.move (Go.Operand.tmp 150), type := 4, pos := "law.go:109", after := #[{ on := 5, ground := Go.Ground.data }, { on := 2, ground := Go.Ground.chain }], guard := none }) (v := ?_) rfl (by kernel_rfl) (by kernel_rfl) (by kernel_rfl) (fun _ _ _ h => h) (Or.inl ⟨by rfl, ?_⟩) (by assumption) ?_
            rotate_left
            · (intro w hSw; (try dsimp only at hSw); go_simp); try with_reducible rfl
            try simp only [Act.put, List.setIfInBounds_toArray, List.set_cons_zero, List.set_cons_succ]
            refine wpAnyH_take (i := 7) (oi := { dst := some 152, op := Go.Op.move (Go.Operand.tmp 6), type := 29, pos := "law.go:109", after := #[{ on := 6, ground := Go.Ground.guard }], guard := some (6, true) }) (v := ?_) rfl (by kernel_rfl) (by kernel_rfl) (by kernel_rfl) (fun _ _ _ h => h) (Or.inl ⟨by rfl, ?_⟩) (by assumption) ?_
            rotate_left
            · (intro w hSw; (try dsimp only at hSw); go_simp); try with_reducible rfl
            try simp only [Act.put, List.setIfInBounds_toArray, List.set_cons_zero, List.set_cons_succ]
            refine wpAnyH_take (i := 9) (oi := { dst := some 154, op := Go.Op.move (Go.Operand.tmp 8), type := 33, pos := "law.go:109", after := #[{ on := 6, ground := Go.Ground.guard }], guard := some (6, true) }) (v := ?_) rfl (by kernel_rfl) (by kernel_rfl) (by kernel_rfl) (fun _ _ _ h => h) (Or.inl ⟨by rfl, ?_⟩) (by assumption) ?_
            rotate_left
            · (intro w hSw; (try dsimp only at hSw); go_simp); try with_reducible rfl
            try simp only [Act.put, List.setIfInBounds_toArray, List.set_cons_zero, List.set_cons_succ]
            refine wpAnyH_take (i := 10) (oi := { dst := some 155, op := Go.Op.nilCheck (Go.Operand.tmp 154), type := 0, pos := "law.go:109", after := #[{ on := 9, ground := Go.Ground.data }, { on := 6, ground := Go.Ground.guard }], guard := some (6, true) }) (v := ?_) rfl (by kernel_rfl) (by kernel_rfl) (by kernel_rfl) (fun _ _ _ h => h) (Or.inl ⟨by rfl, ?_⟩) (by assumption) ?_
            rotate_left
            · (intro w hSw; (try dsimp only at hSw); go_simp); try with_reducible rfl
            try simp only [Act.put, List.setIfInBounds_toArray, List.set_cons_zero, List.set_cons_succ]
            refine wpAnyH_take (i := 11) (oi := { dst := some 156, op := Go.Op.fieldAddr 49 (Go.Operand.tmp 155) 2, type := 0, pos := "law.go:109", after := #[{ on := 10, ground := Go.Ground.data }, { on := 6, ground := Go.Ground.guard }], guard := some (6, true) }) (v := ?_) rfl (by kernel_rfl) (by kernel_rfl) (by kernel_rfl) (fun _ _ _ h => h) (Or.inl ⟨by rfl, ?_⟩) (by assumption) ?_
            rotate_left
            · (intro w hSw; (try dsimp only at hSw); go_simp); try with_reducible rfl
            try simp only [Act.put, List.setIfInBounds_toArray, List.set_cons_zero, List.set_cons_succ]
            refine wpAnyH_take (i := 12) (oi := { dst := some 157, op := Go.Op.load 46 (Go.Operand.tmp 156), type := 46, pos := "law.go:109", after := #[{ on := 11, ground := Go.Ground.data }, { on := 6, ground := Go.Ground.guard }], guard := some (6, true) }) (v := ?_) rfl (by kernel_rfl) (by kernel_rfl) (by kernel_rfl) (fun _ _ _ h => h) (Or.inl ⟨by rfl, ?_⟩) (by assumption) ?_
            rotate_left
            · (intro w hSw; (try dsimp only at hSw); go_simp); try with_reducible rfl
            try simp only [Act.put, List.setIfInBounds_toArray, List.set_cons_zero, List.set_cons_succ]
            refine wpAnyH_ready (rs := [8]) (by kernel_rfl) (by simp) ?_
            refine (AllReadyH.cons (o := { dst := some 153, op := Go.Op.call { callee := Go.Callee.value (Go.Operand.func 25), args := #[Go.Operand.tmp 152], argTypes := #[29] }, type := 46, pos := "law.go:109", after := #[{ on := 7, ground := Go.Ground.data }, { on := 6, ground := Go.Ground.chain }, { on := 6, ground := Go.Ground.guard }], guard := some (6, true) }) rfl (fun K0 hK => ?_) AllReadyH.nil)
            have hbq9 := P44.bel (rk := rk9) (u := .slice Ak R9.length ckk) (w0 := w9) hHeld
            go_simp
            go_at_call 25
            with_reducible refine Calls.mono (HALL.out _ hbq9) ?_
            rintro e w98 ⟨Aa, ca, rfl, ta, hb⟩
            have TA := Lib.hid ta
            clear ta
            try go_wp2_with fail
            refine hK.out _ _ (P44.go (rk := rk9) (u := .slice Ak R9.length ckk) (w0 := w9) (by assumption) hb) (fun hHeld2 => ?_)
            clear hK K0 hHeld hb hbq9
            have hHeld := hHeld2; clear hHeld2
            try simp only [Act.put, List.setIfInBounds_toArray, List.set_cons_zero, List.set_cons_succ]
            refine wpAnyH_ready (rs := [13]) (by kernel_rfl) (by simp) ?_
            refine (AllReadyH.cons (o := { dst := some 158, op := Go.Op.call { callee := Go.Callee.value (Go.Operand.func 24), args := #[Go.Operand.tmp 153, Go.Operand.tmp 157], argTypes := #[46, 46] }, type := 4, pos := "law.go:109", after := #[{ on := 8, ground := Go.Ground.data }, { on := 12, ground := Go.Ground.data }, { on := 8, ground := Go.Ground.chain }, { on := 6, ground := Go.Ground.guard }], guard := some (6, true) }) rfl (fun K1 hK => ?_) AllReadyH.nil)
            have hbq9 := P44.bel (rk := rk9) (u := .slice Ak R9.length ckk) (w0 := w9) hHeld
            go_simp
            go_at_call 24
            with_reducible refine Calls.mono (sameT_any Aa ca Ak ckk R9 _ TA.out (HKT.out _ hbq9) HRL.out) ?_
            rintro e w913 ⟨rfl, hb⟩
            try go_wp2_with fail
            refine hK.out _ _ (P44.go (rk := rk9) (u := .slice Ak R9.length ckk) (w0 := w9) (by assumption) hb) (fun hHeld2 => ?_)
            clear hK K1 hHeld hb hbq9
            have hHeld := hHeld2; clear hHeld2
            try simp only [Act.put, List.setIfInBounds_toArray, List.set_cons_zero, List.set_cons_succ]
            refine wpAnyH_take (i := 14) (oi := { dst := some 159, op := Go.Op.unOp Go.UnOp.not 4 (Go.Operand.tmp 158), type := 4, pos := "law.go:109", after := #[{ on := 13, ground := Go.Ground.data }, { on := 6, ground := Go.Ground.guard }], guard := some (6, true) }) (v := ?_) rfl (by kernel_rfl) (by kernel_rfl) (by kernel_rfl) (fun _ _ _ h => h) (Or.inl ⟨by rfl, ?_⟩) (by assumption) ?_
            rotate_left
            · (intro w hSw; (try dsimp only at hSw); go_simp); try with_reducible rfl
            try simp only [Act.put, List.setIfInBounds_toArray, List.set_cons_zero, List.set_cons_succ]
            refine wpAnyH_take (i := 15) (oi := { dst := some 160, op := Go.Op.pick (Go.Operand.tmp 151) (Go.Operand.tmp 159) (Go.Operand.const (Go.Value.bool false)), type := 4, pos := "law.go:109", after := #[{ on := 6, ground := Go.Ground.data }, { on := 14, ground := Go.Ground.data }], guard := none }) (v := ?_) rfl (by kernel_rfl) (by kernel_rfl) (by kernel_rfl) (fun _ _ _ h => h) (Or.inl ⟨by rfl, ?_⟩) (by assumption) ?_
            rotate_left
            · (intro w hSw; (try dsimp only at hSw); go_simp); try with_reducible rfl
            try simp only [Act.put, List.setIfInBounds_toArray, List.set_cons_zero, List.set_cons_succ]
            refine wpAnyH_done (by kernel_rfl) ?_ _
            have HNB := Lib.hid (HI9.out.below (P44.bel (rk := rk9) (u := .slice Ak R9.length ckk) (w0 := w9) hHeld))
            clear hHeld HI9
            go_wp2
            go_roundw
            case rel => exact ⟨k + 1, c, by omega, by go_num, rfl, rfl, HNB⟩
            case measure => simp [intOf]; omega
        by_cases h3 : K = 3
        · subst h3
          go_wp2_with fail
          refine (jt_arm HI1.out hkk HXO.out.n HR.out HZK.out f2).mono ?_
          rintro e w8 ⟨rfl, ok8, q8⟩
          have OB8 := ok8 _ _ _ HOB.out
          have p2 := cell_box OB8 2 _ rfl
          have p3 := cell_box OB8 3 _ rfl
          have Q8 := Lib.hid q8
          clear q8 ok8 OB8 o0 o1 o2 o3 HI1 HOB
          go_wp2_with fail
          refine Q8.out.mono ?_
          rintro e w9 ⟨rfl, _, h9⟩
          have HI9 := Lib.hid h9
          clear h9 Q8 p2 p3
          rcases HI9.out.shape with ⟨hj9, hq9⟩ | ⟨rj9, rk9, hj9, hq9⟩
          · subst hj9
            subst hq9
            go_upto_region 44 with fail
            refine wp_region_held_drew (S := (fun w' => Hid (Below w9.heap.size w9 w'))) (by kernel_rfl) ?_ (fun hHeld => ?_)
            · exact Lib.hid (below_drew w9 1)
            refine wpAnyH_take (i := 0) (oi := { dst := some 145, op := Go.Op.move (Go.Operand.tmp 6), type := 29, pos := "law.go:109", after := #[], guard := none }) (v := ?_) rfl (by kernel_rfl) (by kernel_rfl) (by kernel_rfl) (fun _ _ _ h => h) (Or.inl ⟨by rfl, ?_⟩) (by assumption) ?_
            rotate_left
            · (intro w hSw; (try dsimp only at hSw); go_simp); try with_reducible rfl
            try simp only [Act.put, List.setIfInBounds_toArray, List.set_cons_zero, List.set_cons_succ]
            refine wpAnyH_take (i := 1) (oi := { dst := some 146, op := Go.Op.binOp Go.BinOp.neq 29 (Go.Operand.tmp 145) (Go.Operand.const (Go.Value.pointer none)) 29, type := 4, pos := "law.go:109", after := #[{ on := 0, ground := Go.Ground.data }], guard := none }) (v := ?_) rfl (by kernel_rfl) (by kernel_rfl) (by kernel_rfl) (fun _ _ _ h => h) (Or.inl ⟨by rfl, ?_⟩) (by assumption) ?_
            rotate_left
            · (intro w hSw; (try dsimp only at hSw); go_simp); try with_reducible rfl
            try simp only [Act.put, List.setIfInBounds_toArray, List.set_cons_zero, List.set_cons_succ]
            refine wpAnyH_take (i := 2) (oi := { dst := some 147, op := Go.Op.move (Go.Operand.tmp 146), type := 4, pos := "law.go:109", after := #[{ on := 1, ground := Go.Ground.data }], guard := none }) (v := ?_) rfl (by kernel_rfl) (by kernel_rfl) (by kernel_rfl) (fun _ _ _ h => h) (Or.inl ⟨by rfl, ?_⟩) (by assumption) ?_
            rotate_left
            · (intro w hSw; (try dsimp only at hSw); go_simp); try with_reducible rfl
            try simp only [Act.put, List.setIfInBounds_toArray, List.set_cons_zero, List.set_cons_succ]
            refine wpAnyH_take (i := 3) (oi := { dst := some 148, op := Go.Op.move (Go.Operand.tmp 8), type := 33, pos := "law.go:109", after := #[{ on := 2, ground := Go.Ground.guard }], guard := some (2, true) }) (v := undef) rfl (by kernel_rfl) (by kernel_rfl) (by kernel_rfl) (fun _ _ _ h => h) (Or.inr ⟨by rfl, by rfl⟩) (by assumption) ?_
            try simp only [Act.put, List.setIfInBounds_toArray, List.set_cons_zero, List.set_cons_succ]
            refine wpAnyH_take (i := 4) (oi := { dst := some 149, op := Go.Op.binOp Go.BinOp.neq 33 (Go.Operand.tmp 148) (Go.Operand.const (Go.Value.pointer none)) 33, type := 4, pos := "law.go:109", after := #[{ on := 3, ground := Go.Ground.data }, { on := 2, ground := Go.Ground.guard }], guard := some (2, true) }) (v := undef) rfl (by kernel_rfl) (by kernel_rfl) (by kernel_rfl) (fun _ _ _ h => h) (Or.inr ⟨by rfl, by rfl⟩) (by assumption) ?_
            try simp only [Act.put, List.setIfInBounds_toArray, List.set_cons_zero, List.set_cons_succ]
            refine wpAnyH_take (i := 5) (oi := { dst := some 150, op := Go.Op.pick (Go.Operand.tmp 147) (Go.Operand.tmp 149) (Go.Operand.const (Go.Value.bool false)), type := 4, pos := "law.go:109", after := #[{ on := 2, ground := Go.Ground.data }, { on := 4, ground := Go.Ground.data }], guard := none }) (v := ?_) rfl (by kernel_rfl) (by kernel_rfl) (by kernel_rfl) (fun _ _ _ h => h) (Or.inl ⟨by rfl, ?_⟩) (by assumption) ?_
            rotate_left
            · (intro w hSw; (try dsimp only at hSw); go_simp); try with_reducible rfl
            try simp only [Act.put, List.setIfInBounds_toArray, List.set_cons_zero, List.set_cons_succ]
            refine wpAnyH_take (i := 6) (oi := { dst := some 151, op := Go.Op.move (Go.Operand.tmp 150), type := 4, pos := "law.go:109", after := #[{ on := 5, ground := Go.Ground.data }, { on := 2, ground := Go.Ground.chain }], guard := none }) (v := ?_) rfl (by kernel_rfl) (by kernel_rfl) (by kernel_rfl) (fun _ _ _ h => h) (Or.inl ⟨by rfl, ?_⟩) (by assumption) ?_
            rotate_left
            · (intro w hSw; (try dsimp only at hSw); go_simp); try with_reducible rfl
            try simp only [Act.put, List.setIfInBounds_toArray, List.set_cons_zero, List.set_cons_succ]
            refine wpAnyH_take (i := 7) (oi := { dst := some 152, op := Go.Op.move (Go.Operand.tmp 6), type := 29, pos := "law.go:109", after := #[{ on := 6, ground := Go.Ground.guard }], guard := some (6, true) }) (v := undef) rfl (by kernel_rfl) (by kernel_rfl) (by kernel_rfl) (fun _ _ _ h => h) (Or.inr ⟨by rfl, by rfl⟩) (by assumption) ?_
            try simp only [Act.put, List.setIfInBounds_toArray, List.set_cons_zero, List.set_cons_succ]
            refine wpAnyH_take (i := 8) (oi := { dst := some 153, op := Go.Op.call { callee := Go.Callee.value (Go.Operand.func 25), args := #[Go.Operand.tmp 152], argTypes := #[29] }, type := 46, pos := "law.go:109", after := #[{ on := 7, ground := Go.Ground.data }, { on := 6, ground := Go.Ground.chain }, { on := 6, ground := Go.Ground.guard }], guard := some (6, true) }) (v := undef) rfl (by kernel_rfl) (by kernel_rfl) (by kernel_rfl) (fun _ _ _ h => h) (Or.inr ⟨by rfl, by rfl⟩) (by assumption) ?_
            try simp only [Act.put, List.setIfInBounds_toArray, List.set_cons_zero, List.set_cons_succ]
            refine wpAnyH_take (i := 9) (oi := { dst := some 154, op := Go.Op.move (Go.Operand.tmp 8), type := 33, pos := "law.go:109", after := #[{ on := 6, ground := Go.Ground.guard }], guard := some (6, true) }) (v := undef) rfl (by kernel_rfl) (by kernel_rfl) (by kernel_rfl) (fun _ _ _ h => h) (Or.inr ⟨by rfl, by rfl⟩) (by assumption) ?_
            try simp only [Act.put, List.setIfInBounds_toArray, List.set_cons_zero, List.set_cons_succ]
            refine wpAnyH_take (i := 10) (oi := { dst := some 155, op := Go.Op.nilCheck (Go.Operand.tmp 154), type := 0, pos := "law.go:109", after := #[{ on := 9, ground := Go.Ground.data }, { on := 6, ground := Go.Ground.guard }], guard := some (6, true) }) (v := undef) rfl (by kernel_rfl) (by kernel_rfl) (by kernel_rfl) (fun _ _ _ h => h) (Or.inr ⟨by rfl, by rfl⟩) (by assumption) ?_
            try simp only [Act.put, List.setIfInBounds_toArray, List.set_cons_zero, List.set_cons_succ]
            refine wpAnyH_take (i := 11) (oi := { dst := some 156, op := Go.Op.fieldAddr 49 (Go.Operand.tmp 155) 2, type := 0, pos := "law.go:109", after := #[{ on := 10, ground := Go.Ground.data }, { on := 6, ground := Go.Ground.guard }], guard := some (6, true) }) (v := undef) rfl (by kernel_rfl) (by kernel_rfl) (by kernel_rfl) (fun _ _ _ h => h) (Or.inr ⟨by rfl, by rfl⟩) (by assumption) ?_
            try simp only [Act.put, List.setIfInBounds_toArray, List.set_cons_zero, List.set_cons_succ]
            refine wpAnyH_take (i := 12) (oi := { dst := some 157, op := Go.Op.load 46 (Go.Operand.tmp 156), type := 46, pos := "law.go:109", after := #[{ on := 11, ground := Go.Ground.data }, { on := 6, ground := Go.Ground.guard }], guard := some (6, true) }) (v := undef) rfl (by kernel_rfl) (by kernel_rfl) (by kernel_rfl) (fun _ _ _ h => h) (Or.inr ⟨by rfl, by rfl⟩) (by assumption) ?_
            try simp only [Act.put, List.setIfInBounds_toArray, List.set_cons_zero, List.set_cons_succ]
            refine wpAnyH_take (i := 13) (oi := { dst := some 158, op := Go.Op.call { callee := Go.Callee.value (Go.Operand.func 24), args := #[Go.Operand.tmp 153, Go.Operand.tmp 157], argTypes := #[46, 46] }, type := 4, pos := "law.go:109", after := #[{ on := 8, ground := Go.Ground.data }, { on := 12, ground := Go.Ground.data }, { on := 8, ground := Go.Ground.chain }, { on := 6, ground := Go.Ground.guard }], guard := some (6, true) }) (v := undef) rfl (by kernel_rfl) (by kernel_rfl) (by kernel_rfl) (fun _ _ _ h => h) (Or.inr ⟨by rfl, by rfl⟩) (by assumption) ?_
            try simp only [Act.put, List.setIfInBounds_toArray, List.set_cons_zero, List.set_cons_succ]
            refine wpAnyH_take (i := 14) (oi := { dst := some 159, op := Go.Op.unOp Go.UnOp.not 4 (Go.Operand.tmp 158), type := 4, pos := "law.go:109", after := #[{ on := 13, ground := Go.Ground.data }, { on := 6, ground := Go.Ground.guard }], guard := some (6, true) }) (v := undef) rfl (by kernel_rfl) (by kernel_rfl) (by kernel_rfl) (fun _ _ _ h => h) (Or.inr ⟨by rfl, by rfl⟩) (by assumption) ?_
            try simp only [Act.put, List.setIfInBounds_toArray, List.set_cons_zero, List.set_cons_succ]
            refine wpAnyH_take (i := 15) (oi := { dst := some 160, op := Go.Op.pick (Go.Operand.tmp 151) (Go.Operand.tmp 159) (Go.Operand.const (Go.Value.bool false)), type := 4, pos := "law.go:109", after := #[{ on := 6, ground := Go.Ground.data }, { on := 14, ground := Go.Ground.data }], guard := none }) (v := ?_) rfl (by kernel_rfl) (by kernel_rfl) (by kernel_rfl) (fun _ _ _ h => h) (Or.inl ⟨by rfl, ?_⟩) (by assumption) ?_
            rotate_left
            · (intro w hSw; (try dsimp only at hSw); go_simp); try with_reducible rfl
            try simp only [Act.put, List.setIfInBounds_toArray, List.set_cons_zero, List.set_cons_succ]
            refine wpAnyH_done (by kernel_rfl) ?_ _
            have HNB := Lib.hid (HI9.out.below (Hid.out hHeld))
            clear hHeld HI9
            go_wp2
            go_roundw
            case rel => exact ⟨k + 1, c, by omega, by go_num, rfl, rfl, HNB⟩
            case measure => simp [intOf]; omega
          · subst hj9
            subst hq9
            obtain ⟨L9, d9, n9, g1, g2, ⟨g3, _⟩ | ⟨rj', v9, rk', R9, bad9, g3, g4, g5, g6, g7⟩⟩ := HI9.out
            · cases g3
            cases g3
            cases g4
            have hRl9 : R9.length ≤ (forms R9).length := forms_count
            obtain ⟨Ak, ckk, kk0, kk1, kk2, kk3, kkz, kkr⟩ := g6.cells
            have hkl := g6.lt
            obtain ⟨_, _, hke, hkt⟩ := TRow.of_own (O := fun _ => False) kkr (fun _ _ h => h)
            cases hke
            have HALL : Hid (∀ w', Below w9.heap.size w9 w' → Calls Tryz.prog 25 #[.pointer (some ⟨rj9, 0, none⟩)] w' (AllIs R9 w')) := Lib.hid (fun w' hb => all_is (g5.below hb) (by omega))
            have HKT : Hid (∀ w', Below w9.heap.size w9 w' → TRow (fun _ => False) w' Ak R9) := Lib.hid (fun w' hb => hkt.below hb)
            have HRL : Hid (R9.length ≤ 1099511627776) := Lib.hid (by omega)
            have E5 : Hid (P44 rk9 (.slice Ak R9.length ckk) w9 w9) := Lib.hid ⟨hkl, kk2, Lib.hid (Below.refl _ _)⟩
            clear g1 g2 g5 g6 g7 kk0 kk1 kk3 kkz kkr hkt hRl9 hkl
            go_upto_region 44 with fail
            refine wp_region_held_drew (S := (fun w' => rk9 < w'.heap.size ∧ w'.cell? ⟨rk9, 2, none⟩ = some (.slice Ak R9.length ckk) ∧ Hid (Below w9.heap.size w9 w'))) (by kernel_rfl) ?_ (fun hHeld => ?_)
            · exact P44.drewN E5.out 1
            refine wpAnyH_take (i := 0) (oi := { dst := some 145, op := Go.Op.move (Go.Operand.tmp 6), type := 29, pos := "law.go:109", after := #[], guard := none }) (v := ?_) rfl (by kernel_rfl) (by kernel_rfl) (by kernel_rfl) (fun _ _ _ h => h) (Or.inl ⟨by rfl, ?_⟩) (by assumption) ?_
            rotate_left
            · (intro w hSw; (try dsimp only at hSw); go_simp); try with_reducible rfl
            try simp only [Act.put, List.setIfInBounds_toArray, List.set_cons_zero, List.set_cons_succ]
            refine wpAnyH_take (i := 1) (oi := { dst := some 146, op := Go.Op.binOp Go.BinOp.neq 29 (Go.Operand.tmp 145) (Go.Operand.const (Go.Value.pointer none)) 29, type := 4, pos := "law.go:109", after := #[{ on := 0, ground := Go.Ground.data }], guard := none }) (v := ?_) rfl (by kernel_rfl) (by kernel_rfl) (by kernel_rfl) (fun _ _ _ h => h) (Or.inl ⟨by rfl, ?_⟩) (by assumption) ?_
            rotate_left
            · (intro w hSw; (try dsimp only at hSw); go_simp); try with_reducible rfl
            try simp only [Act.put, List.setIfInBounds_toArray, List.set_cons_zero, List.set_cons_succ]
            refine wpAnyH_take (i := 2) (oi := { dst := some 147, op := Go.Op.move (Go.Operand.tmp 146), type := 4, pos := "law.go:109", after := #[{ on := 1, ground := Go.Ground.data }], guard := none }) (v := ?_) rfl (by kernel_rfl) (by kernel_rfl) (by kernel_rfl) (fun _ _ _ h => h) (Or.inl ⟨by rfl, ?_⟩) (by assumption) ?_
            rotate_left
            · (intro w hSw; (try dsimp only at hSw); go_simp); try with_reducible rfl
            try simp only [Act.put, List.setIfInBounds_toArray, List.set_cons_zero, List.set_cons_succ]
            refine wpAnyH_take (i := 3) (oi := { dst := some 148, op := Go.Op.move (Go.Operand.tmp 8), type := 33, pos := "law.go:109", after := #[{ on := 2, ground := Go.Ground.guard }], guard := some (2, true) }) (v := ?_) rfl (by kernel_rfl) (by kernel_rfl) (by kernel_rfl) (fun _ _ _ h => h) (Or.inl ⟨by rfl, ?_⟩) (by assumption) ?_
            rotate_left
            · (intro w hSw; (try dsimp only at hSw); go_simp); try with_reducible rfl
            try simp only [Act.put, List.setIfInBounds_toArray, List.set_cons_zero, List.set_cons_succ]
            refine wpAnyH_take (i := 4) (oi := { dst := some 149, op := Go.Op.binOp Go.BinOp.neq 33 (Go.Operand.tmp 148) (Go.Operand.const (Go.Value.pointer none)) 33, type := 4, pos := "law.go:109", after := #[{ on := 3, ground := Go.Ground.data }, { on := 2, ground := Go.Ground.guard }], guard := some (2, true) }) (v := ?_) rfl (by kernel_rfl) (by kernel_rfl) (by kernel_rfl) (fun _ _ _ h => h) (Or.inl ⟨by rfl, ?_⟩) (by assumption) ?_
            rotate_left
            · (intro w hSw; (try dsimp only at hSw); go_simp); try with_reducible rfl
            try simp only [Act.put, List.setIfInBounds_toArray, List.set_cons_zero, List.set_cons_succ]
            refine wpAnyH_take (i := 5) (oi := { dst := some 150, op := Go.Op.pick (Go.Operand.tmp 147) (Go.Operand.tmp 149) (Go.Operand.const (Go.Value.bool false)), type := 4, pos := "law.go:109", after := #[{ on := 2, ground := Go.Ground.data }, { on := 4, ground := Go.Ground.data }], guard := none }) (v := ?_) rfl (by kernel_rfl) (by kernel_rfl) (by kernel_rfl) (fun _ _ _ h => h) (Or.inl ⟨by rfl, ?_⟩) (by assumption) ?_
            rotate_left
            · (intro w hSw; (try dsimp only at hSw); go_simp); try with_reducible rfl
            try simp only [Act.put, List.setIfInBounds_toArray, List.set_cons_zero, List.set_cons_succ]
            refine wpAnyH_take (i := 6) (oi := { dst := some 151, op := Go.Op.move (Go.Operand.tmp 150), type := 4, pos := "law.go:109", after := #[{ on := 5, ground := Go.Ground.data }, { on := 2, ground := Go.Ground.chain }], guard := none }) (v := ?_) rfl (by kernel_rfl) (by kernel_rfl) (by kernel_rfl) (fun _ _ _ h => h) (Or.inl ⟨by rfl, ?_⟩) (by assumption) ?_
            rotate_left
            · (intro w hSw; (try dsimp only at hSw); go_simp); try with_reducible rfl
            try simp only [Act.put, List.setIfInBounds_toArray, List.set_cons_zero, List.set_cons_succ]
            refine wpAnyH_take (i := 7) (oi := { dst := some 152, op := Go.Op.move (Go.Operand.tmp 6), type := 29, pos := "law.go:109", after := #[{ on := 6, ground := Go.Ground.guard }], guard := some (6, true) }) (v := ?_) rfl (by kernel_rfl) (by kernel_rfl) (by kernel_rfl) (fun _ _ _ h => h) (Or.inl ⟨by rfl, ?_⟩) (by assumption) ?_
            rotate_left
            · (intro w hSw; (try dsimp only at hSw); go_simp); try with_reducible rfl
            try simp only [Act.put, List.setIfInBounds_toArray, List.set_cons_zero, List.set_cons_succ]
            refine wpAnyH_take (i := 9) (oi := { dst := some 154, op := Go.Op.move (Go.Operand.tmp 8), type := 33, pos := "law.go:109", after := #[{ on := 6, ground := Go.Ground.guard }], guard := some (6, true) }) (v := ?_) rfl (by kernel_rfl) (by kernel_rfl) (by kernel_rfl) (fun _ _ _ h => h) (Or.inl ⟨by rfl, ?_⟩) (by assumption) ?_
            rotate_left
            · (intro w hSw; (try dsimp only at hSw); go_simp); try with_reducible rfl
            try simp only [Act.put, List.setIfInBounds_toArray, List.set_cons_zero, List.set_cons_succ]
            refine wpAnyH_take (i := 10) (oi := { dst := some 155, op := Go.Op.nilCheck (Go.Operand.tmp 154), type := 0, pos := "law.go:109", after := #[{ on := 9, ground := Go.Ground.data }, { on := 6, ground := Go.Ground.guard }], guard := some (6, true) }) (v := ?_) rfl (by kernel_rfl) (by kernel_rfl) (by kernel_rfl) (fun _ _ _ h => h) (Or.inl ⟨by rfl, ?_⟩) (by assumption) ?_
            rotate_left
            · (intro w hSw; (try dsimp only at hSw); go_simp); try with_reducible rfl
            try simp only [Act.put, List.setIfInBounds_toArray, List.set_cons_zero, List.set_cons_succ]
            refine wpAnyH_take (i := 11) (oi := { dst := some 156, op := Go.Op.fieldAddr 49 (Go.Operand.tmp 155) 2, type := 0, pos := "law.go:109", after := #[{ on := 10, ground := Go.Ground.data }, { on := 6, ground := Go.Ground.guard }], guard := some (6, true) }) (v := ?_) rfl (by kernel_rfl) (by kernel_rfl) (by kernel_rfl) (fun _ _ _ h => h) (Or.inl ⟨by rfl, ?_⟩) (by assumption) ?_
            rotate_left
            · (intro w hSw; (try dsimp only at hSw); go_simp); try with_reducible rfl
            try simp only [Act.put, List.setIfInBounds_toArray, List.set_cons_zero, List.set_cons_succ]
            refine wpAnyH_take (i := 12) (oi := { dst := some 157, op := Go.Op.load 46 (Go.Operand.tmp 156), type := 46, pos := "law.go:109", after := #[{ on := 11, ground := Go.Ground.data }, { on := 6, ground := Go.Ground.guard }], guard := some (6, true) }) (v := ?_) rfl (by kernel_rfl) (by kernel_rfl) (by kernel_rfl) (fun _ _ _ h => h) (Or.inl ⟨by rfl, ?_⟩) (by assumption) ?_
            rotate_left
            · (intro w hSw; (try dsimp only at hSw); go_simp); try with_reducible rfl
            try simp only [Act.put, List.setIfInBounds_toArray, List.set_cons_zero, List.set_cons_succ]
            refine wpAnyH_ready (rs := [8]) (by kernel_rfl) (by simp) ?_
            refine (AllReadyH.cons (o := { dst := some 153, op := Go.Op.call { callee := Go.Callee.value (Go.Operand.func 25), args := #[Go.Operand.tmp 152], argTypes := #[29] }, type := 46, pos := "law.go:109", after := #[{ on := 7, ground := Go.Ground.data }, { on := 6, ground := Go.Ground.chain }, { on := 6, ground := Go.Ground.guard }], guard := some (6, true) }) rfl (fun K0 hK => ?_) AllReadyH.nil)
            have hbq9 := P44.bel (rk := rk9) (u := .slice Ak R9.length ckk) (w0 := w9) hHeld
            go_simp
            go_at_call 25
            with_reducible refine Calls.mono (HALL.out _ hbq9) ?_
            rintro e w98 ⟨Aa, ca, rfl, ta, hb⟩
            have TA := Lib.hid ta
            clear ta
            try go_wp2_with fail
            refine hK.out _ _ (P44.go (rk := rk9) (u := .slice Ak R9.length ckk) (w0 := w9) (by assumption) hb) (fun hHeld2 => ?_)
            clear hK K0 hHeld hb hbq9
            have hHeld := hHeld2; clear hHeld2
            try simp only [Act.put, List.setIfInBounds_toArray, List.set_cons_zero, List.set_cons_succ]
            refine wpAnyH_ready (rs := [13]) (by kernel_rfl) (by simp) ?_
            refine (AllReadyH.cons (o := { dst := some 158, op := Go.Op.call { callee := Go.Callee.value (Go.Operand.func 24), args := #[Go.Operand.tmp 153, Go.Operand.tmp 157], argTypes := #[46, 46] }, type := 4, pos := "law.go:109", after := #[{ on := 8, ground := Go.Ground.data }, { on := 12, ground := Go.Ground.data }, { on := 8, ground := Go.Ground.chain }, { on := 6, ground := Go.Ground.guard }], guard := some (6, true) }) rfl (fun K1 hK => ?_) AllReadyH.nil)
            have hbq9 := P44.bel (rk := rk9) (u := .slice Ak R9.length ckk) (w0 := w9) hHeld
            go_simp
            go_at_call 24
            with_reducible refine Calls.mono (sameT_any Aa ca Ak ckk R9 _ TA.out (HKT.out _ hbq9) HRL.out) ?_
            rintro e w913 ⟨rfl, hb⟩
            try go_wp2_with fail
            refine hK.out _ _ (P44.go (rk := rk9) (u := .slice Ak R9.length ckk) (w0 := w9) (by assumption) hb) (fun hHeld2 => ?_)
            clear hK K1 hHeld hb hbq9
            have hHeld := hHeld2; clear hHeld2
            try simp only [Act.put, List.setIfInBounds_toArray, List.set_cons_zero, List.set_cons_succ]
            refine wpAnyH_take (i := 14) (oi := { dst := some 159, op := Go.Op.unOp Go.UnOp.not 4 (Go.Operand.tmp 158), type := 4, pos := "law.go:109", after := #[{ on := 13, ground := Go.Ground.data }, { on := 6, ground := Go.Ground.guard }], guard := some (6, true) }) (v := ?_) rfl (by kernel_rfl) (by kernel_rfl) (by kernel_rfl) (fun _ _ _ h => h) (Or.inl ⟨by rfl, ?_⟩) (by assumption) ?_
            rotate_left
            · (intro w hSw; (try dsimp only at hSw); go_simp); try with_reducible rfl
            try simp only [Act.put, List.setIfInBounds_toArray, List.set_cons_zero, List.set_cons_succ]
            refine wpAnyH_take (i := 15) (oi := { dst := some 160, op := Go.Op.pick (Go.Operand.tmp 151) (Go.Operand.tmp 159) (Go.Operand.const (Go.Value.bool false)), type := 4, pos := "law.go:109", after := #[{ on := 6, ground := Go.Ground.data }, { on := 14, ground := Go.Ground.data }], guard := none }) (v := ?_) rfl (by kernel_rfl) (by kernel_rfl) (by kernel_rfl) (fun _ _ _ h => h) (Or.inl ⟨by rfl, ?_⟩) (by assumption) ?_
            rotate_left
            · (intro w hSw; (try dsimp only at hSw); go_simp); try with_reducible rfl
            try simp only [Act.put, List.setIfInBounds_toArray, List.set_cons_zero, List.set_cons_succ]
            refine wpAnyH_done (by kernel_rfl) ?_ _
            have HNB := Lib.hid (HI9.out.below (P44.bel (rk := rk9) (u := .slice Ak R9.length ckk) (w0 := w9) hHeld))
            clear hHeld HI9
            go_wp2
            go_roundw
            case rel => exact ⟨k + 1, c, by omega, by go_num, rfl, rfl, HNB⟩
            case measure => simp [intOf]; omega
        by_cases h4 : K = 4
        · subst h4
          have HE := Lib.hid HI1.out.disk.e
          clear HI1
          go_wp2_with fail
          refine (jt_crash HE.out hkk (by omega) (cap := ck) HR.out f2).mono ?_
          rintro e w8 ⟨rfl, ok8, q8⟩
          have OB8 := ok8 _ _ _ HOB.out
          have p3 := cell_box OB8 3 _ rfl
          have Q8 := Lib.hid q8
          clear q8 ok8 OB8 o0 o1 o2 o3 HE HOB
          go_wp2_with fail
          refine Q8.out.mono ?_
          rintro e w8b ⟨rfl, _, h8⟩
          have HE0 := Lib.hid h8
          clear h8 Q8 p3
          go_wp2_with fail
          refine (jt_start HE0.out).mono ?_
          rintro e wa ⟨rfl, _, qa⟩
          have QA := Lib.hid qa
          clear qa HE0
          go_wp2_with fail
          refine QA.out.mono ?_
          rintro e wb ⟨rfl, _, hb1⟩
          have HE1 := Lib.hid hb1
          clear hb1 QA
          go_wp2_with fail
          refine (jt_open HE1.out hkk (by omega)).mono ?_
          rintro e wc ⟨j2, c8, rfl, _, qc⟩
          have QC := Lib.hid qc
          clear qc HE1
          go_wp2_with fail
          refine QC.out.mono ?_
          rintro e w9 ⟨q2, rfl, _, h9⟩
          have HI9 := Lib.hid h9
          have hee8 : (c8 != c8) = false := by simp
          clear h9 QC hee
          rcases HI9.out.shape with ⟨hj9, hq9⟩ | ⟨rj9, rk9, hj9, hq9⟩
          · subst hj9
            subst hq9
            go_upto_region 44 with fail
            refine wp_region_held_drew (S := (fun w' => Hid (Below w9.heap.size w9 w'))) (by kernel_rfl) ?_ (fun hHeld => ?_)
            · exact Lib.hid (below_drew w9 1)
            refine wpAnyH_take (i := 0) (oi := { dst := some 145, op := Go.Op.move (Go.Operand.tmp 6), type := 29, pos := "law.go:109", after := #[], guard := none }) (v := ?_) rfl (by kernel_rfl) (by kernel_rfl) (by kernel_rfl) (fun _ _ _ h => h) (Or.inl ⟨by rfl, ?_⟩) (by assumption) ?_
            rotate_left
            · (intro w hSw; (try dsimp only at hSw); go_simp); try with_reducible rfl
            try simp only [Act.put, List.setIfInBounds_toArray, List.set_cons_zero, List.set_cons_succ]
            refine wpAnyH_take (i := 1) (oi := { dst := some 146, op := Go.Op.binOp Go.BinOp.neq 29 (Go.Operand.tmp 145) (Go.Operand.const (Go.Value.pointer none)) 29, type := 4, pos := "law.go:109", after := #[{ on := 0, ground := Go.Ground.data }], guard := none }) (v := ?_) rfl (by kernel_rfl) (by kernel_rfl) (by kernel_rfl) (fun _ _ _ h => h) (Or.inl ⟨by rfl, ?_⟩) (by assumption) ?_
            rotate_left
            · (intro w hSw; (try dsimp only at hSw); go_simp); try with_reducible rfl
            try simp only [Act.put, List.setIfInBounds_toArray, List.set_cons_zero, List.set_cons_succ]
            refine wpAnyH_take (i := 2) (oi := { dst := some 147, op := Go.Op.move (Go.Operand.tmp 146), type := 4, pos := "law.go:109", after := #[{ on := 1, ground := Go.Ground.data }], guard := none }) (v := ?_) rfl (by kernel_rfl) (by kernel_rfl) (by kernel_rfl) (fun _ _ _ h => h) (Or.inl ⟨by rfl, ?_⟩) (by assumption) ?_
            rotate_left
            · (intro w hSw; (try dsimp only at hSw); go_simp); try with_reducible rfl
            try simp only [Act.put, List.setIfInBounds_toArray, List.set_cons_zero, List.set_cons_succ]
            refine wpAnyH_take (i := 3) (oi := { dst := some 148, op := Go.Op.move (Go.Operand.tmp 8), type := 33, pos := "law.go:109", after := #[{ on := 2, ground := Go.Ground.guard }], guard := some (2, true) }) (v := undef) rfl (by kernel_rfl) (by kernel_rfl) (by kernel_rfl) (fun _ _ _ h => h) (Or.inr ⟨by rfl, by rfl⟩) (by assumption) ?_
            try simp only [Act.put, List.setIfInBounds_toArray, List.set_cons_zero, List.set_cons_succ]
            refine wpAnyH_take (i := 4) (oi := { dst := some 149, op := Go.Op.binOp Go.BinOp.neq 33 (Go.Operand.tmp 148) (Go.Operand.const (Go.Value.pointer none)) 33, type := 4, pos := "law.go:109", after := #[{ on := 3, ground := Go.Ground.data }, { on := 2, ground := Go.Ground.guard }], guard := some (2, true) }) (v := undef) rfl (by kernel_rfl) (by kernel_rfl) (by kernel_rfl) (fun _ _ _ h => h) (Or.inr ⟨by rfl, by rfl⟩) (by assumption) ?_
            try simp only [Act.put, List.setIfInBounds_toArray, List.set_cons_zero, List.set_cons_succ]
            refine wpAnyH_take (i := 5) (oi := { dst := some 150, op := Go.Op.pick (Go.Operand.tmp 147) (Go.Operand.tmp 149) (Go.Operand.const (Go.Value.bool false)), type := 4, pos := "law.go:109", after := #[{ on := 2, ground := Go.Ground.data }, { on := 4, ground := Go.Ground.data }], guard := none }) (v := ?_) rfl (by kernel_rfl) (by kernel_rfl) (by kernel_rfl) (fun _ _ _ h => h) (Or.inl ⟨by rfl, ?_⟩) (by assumption) ?_
            rotate_left
            · (intro w hSw; (try dsimp only at hSw); go_simp); try with_reducible rfl
            try simp only [Act.put, List.setIfInBounds_toArray, List.set_cons_zero, List.set_cons_succ]
            refine wpAnyH_take (i := 6) (oi := { dst := some 151, op := Go.Op.move (Go.Operand.tmp 150), type := 4, pos := "law.go:109", after := #[{ on := 5, ground := Go.Ground.data }, { on := 2, ground := Go.Ground.chain }], guard := none }) (v := ?_) rfl (by kernel_rfl) (by kernel_rfl) (by kernel_rfl) (fun _ _ _ h => h) (Or.inl ⟨by rfl, ?_⟩) (by assumption) ?_
            rotate_left
            · (intro w hSw; (try dsimp only at hSw); go_simp); try with_reducible rfl
            try simp only [Act.put, List.setIfInBounds_toArray, List.set_cons_zero, List.set_cons_succ]
            refine wpAnyH_take (i := 7) (oi := { dst := some 152, op := Go.Op.move (Go.Operand.tmp 6), type := 29, pos := "law.go:109", after := #[{ on := 6, ground := Go.Ground.guard }], guard := some (6, true) }) (v := undef) rfl (by kernel_rfl) (by kernel_rfl) (by kernel_rfl) (fun _ _ _ h => h) (Or.inr ⟨by rfl, by rfl⟩) (by assumption) ?_
            try simp only [Act.put, List.setIfInBounds_toArray, List.set_cons_zero, List.set_cons_succ]
            refine wpAnyH_take (i := 8) (oi := { dst := some 153, op := Go.Op.call { callee := Go.Callee.value (Go.Operand.func 25), args := #[Go.Operand.tmp 152], argTypes := #[29] }, type := 46, pos := "law.go:109", after := #[{ on := 7, ground := Go.Ground.data }, { on := 6, ground := Go.Ground.chain }, { on := 6, ground := Go.Ground.guard }], guard := some (6, true) }) (v := undef) rfl (by kernel_rfl) (by kernel_rfl) (by kernel_rfl) (fun _ _ _ h => h) (Or.inr ⟨by rfl, by rfl⟩) (by assumption) ?_
            try simp only [Act.put, List.setIfInBounds_toArray, List.set_cons_zero, List.set_cons_succ]
            refine wpAnyH_take (i := 9) (oi := { dst := some 154, op := Go.Op.move (Go.Operand.tmp 8), type := 33, pos := "law.go:109", after := #[{ on := 6, ground := Go.Ground.guard }], guard := some (6, true) }) (v := undef) rfl (by kernel_rfl) (by kernel_rfl) (by kernel_rfl) (fun _ _ _ h => h) (Or.inr ⟨by rfl, by rfl⟩) (by assumption) ?_
            try simp only [Act.put, List.setIfInBounds_toArray, List.set_cons_zero, List.set_cons_succ]
            refine wpAnyH_take (i := 10) (oi := { dst := some 155, op := Go.Op.nilCheck (Go.Operand.tmp 154), type := 0, pos := "law.go:109", after := #[{ on := 9, ground := Go.Ground.data }, { on := 6, ground := Go.Ground.guard }], guard := some (6, true) }) (v := undef) rfl (by kernel_rfl) (by kernel_rfl) (by kernel_rfl) (fun _ _ _ h => h) (Or.inr ⟨by rfl, by rfl⟩) (by assumption) ?_
            try simp only [Act.put, List.setIfInBounds_toArray, List.set_cons_zero, List.set_cons_succ]
            refine wpAnyH_take (i := 11) (oi := { dst := some 156, op := Go.Op.fieldAddr 49 (Go.Operand.tmp 155) 2, type := 0, pos := "law.go:109", after := #[{ on := 10, ground := Go.Ground.data }, { on := 6, ground := Go.Ground.guard }], guard := some (6, true) }) (v := undef) rfl (by kernel_rfl) (by kernel_rfl) (by kernel_rfl) (fun _ _ _ h => h) (Or.inr ⟨by rfl, by rfl⟩) (by assumption) ?_
            try simp only [Act.put, List.setIfInBounds_toArray, List.set_cons_zero, List.set_cons_succ]
            refine wpAnyH_take (i := 12) (oi := { dst := some 157, op := Go.Op.load 46 (Go.Operand.tmp 156), type := 46, pos := "law.go:109", after := #[{ on := 11, ground := Go.Ground.data }, { on := 6, ground := Go.Ground.guard }], guard := some (6, true) }) (v := undef) rfl (by kernel_rfl) (by kernel_rfl) (by kernel_rfl) (fun _ _ _ h => h) (Or.inr ⟨by rfl, by rfl⟩) (by assumption) ?_
            try simp only [Act.put, List.setIfInBounds_toArray, List.set_cons_zero, List.set_cons_succ]
            refine wpAnyH_take (i := 13) (oi := { dst := some 158, op := Go.Op.call { callee := Go.Callee.value (Go.Operand.func 24), args := #[Go.Operand.tmp 153, Go.Operand.tmp 157], argTypes := #[46, 46] }, type := 4, pos := "law.go:109", after := #[{ on := 8, ground := Go.Ground.data }, { on := 12, ground := Go.Ground.data }, { on := 8, ground := Go.Ground.chain }, { on := 6, ground := Go.Ground.guard }], guard := some (6, true) }) (v := undef) rfl (by kernel_rfl) (by kernel_rfl) (by kernel_rfl) (fun _ _ _ h => h) (Or.inr ⟨by rfl, by rfl⟩) (by assumption) ?_
            try simp only [Act.put, List.setIfInBounds_toArray, List.set_cons_zero, List.set_cons_succ]
            refine wpAnyH_take (i := 14) (oi := { dst := some 159, op := Go.Op.unOp Go.UnOp.not 4 (Go.Operand.tmp 158), type := 4, pos := "law.go:109", after := #[{ on := 13, ground := Go.Ground.data }, { on := 6, ground := Go.Ground.guard }], guard := some (6, true) }) (v := undef) rfl (by kernel_rfl) (by kernel_rfl) (by kernel_rfl) (fun _ _ _ h => h) (Or.inr ⟨by rfl, by rfl⟩) (by assumption) ?_
            try simp only [Act.put, List.setIfInBounds_toArray, List.set_cons_zero, List.set_cons_succ]
            refine wpAnyH_take (i := 15) (oi := { dst := some 160, op := Go.Op.pick (Go.Operand.tmp 151) (Go.Operand.tmp 159) (Go.Operand.const (Go.Value.bool false)), type := 4, pos := "law.go:109", after := #[{ on := 6, ground := Go.Ground.data }, { on := 14, ground := Go.Ground.data }], guard := none }) (v := ?_) rfl (by kernel_rfl) (by kernel_rfl) (by kernel_rfl) (fun _ _ _ h => h) (Or.inl ⟨by rfl, ?_⟩) (by assumption) ?_
            rotate_left
            · (intro w hSw; (try dsimp only at hSw); go_simp); try with_reducible rfl
            try simp only [Act.put, List.setIfInBounds_toArray, List.set_cons_zero, List.set_cons_succ]
            refine wpAnyH_done (by kernel_rfl) ?_ _
            have HNB := Lib.hid (HI9.out.below (Hid.out hHeld))
            clear hHeld HI9
            go_wp2
            go_roundw
            case rel => exact ⟨k + 1, c8, by omega, by go_num, rfl, rfl, HNB⟩
            case measure => simp [intOf]; omega
          · subst hj9
            subst hq9
            obtain ⟨L9, d9, n9, g1, g2, ⟨g3, _⟩ | ⟨rj', v9, rk', R9, bad9, g3, g4, g5, g6, g7⟩⟩ := HI9.out
            · cases g3
            cases g3
            cases g4
            have hRl9 : R9.length ≤ (forms R9).length := forms_count
            obtain ⟨Ak, ckk, kk0, kk1, kk2, kk3, kkz, kkr⟩ := g6.cells
            have hkl := g6.lt
            obtain ⟨_, _, hke, hkt⟩ := TRow.of_own (O := fun _ => False) kkr (fun _ _ h => h)
            cases hke
            have HALL : Hid (∀ w', Below w9.heap.size w9 w' → Calls Tryz.prog 25 #[.pointer (some ⟨rj9, 0, none⟩)] w' (AllIs R9 w')) := Lib.hid (fun w' hb => all_is (g5.below hb) (by omega))
            have HKT : Hid (∀ w', Below w9.heap.size w9 w' → TRow (fun _ => False) w' Ak R9) := Lib.hid (fun w' hb => hkt.below hb)
            have HRL : Hid (R9.length ≤ 1099511627776) := Lib.hid (by omega)
            have E5 : Hid (P44 rk9 (.slice Ak R9.length ckk) w9 w9) := Lib.hid ⟨hkl, kk2, Lib.hid (Below.refl _ _)⟩
            clear g1 g2 g5 g6 g7 kk0 kk1 kk3 kkz kkr hkt hRl9 hkl
            go_upto_region 44 with fail
            refine wp_region_held_drew (S := (fun w' => rk9 < w'.heap.size ∧ w'.cell? ⟨rk9, 2, none⟩ = some (.slice Ak R9.length ckk) ∧ Hid (Below w9.heap.size w9 w'))) (by kernel_rfl) ?_ (fun hHeld => ?_)
            · exact P44.drewN E5.out 1
            refine wpAnyH_take (i := 0) (oi := { dst := some 145, op := Go.Op.move (Go.Operand.tmp 6), type := 29, pos := "law.go:109", after := #[], guard := none }) (v := ?_) rfl (by kernel_rfl) (by kernel_rfl) (by kernel_rfl) (fun _ _ _ h => h) (Or.inl ⟨by rfl, ?_⟩) (by assumption) ?_
            rotate_left
            · (intro w hSw; (try dsimp only at hSw); go_simp); try with_reducible rfl
            try simp only [Act.put, List.setIfInBounds_toArray, List.set_cons_zero, List.set_cons_succ]
            refine wpAnyH_take (i := 1) (oi := { dst := some 146, op := Go.Op.binOp Go.BinOp.neq 29 (Go.Operand.tmp 145) (Go.Operand.const (Go.Value.pointer none)) 29, type := 4, pos := "law.go:109", after := #[{ on := 0, ground := Go.Ground.data }], guard := none }) (v := ?_) rfl (by kernel_rfl) (by kernel_rfl) (by kernel_rfl) (fun _ _ _ h => h) (Or.inl ⟨by rfl, ?_⟩) (by assumption) ?_
            rotate_left
            · (intro w hSw; (try dsimp only at hSw); go_simp); try with_reducible rfl
            try simp only [Act.put, List.setIfInBounds_toArray, List.set_cons_zero, List.set_cons_succ]
            refine wpAnyH_take (i := 2) (oi := { dst := some 147, op := Go.Op.move (Go.Operand.tmp 146), type := 4, pos := "law.go:109", after := #[{ on := 1, ground := Go.Ground.data }], guard := none }) (v := ?_) rfl (by kernel_rfl) (by kernel_rfl) (by kernel_rfl) (fun _ _ _ h => h) (Or.inl ⟨by rfl, ?_⟩) (by assumption) ?_
            rotate_left
            · (intro w hSw; (try dsimp only at hSw); go_simp); try with_reducible rfl
            try simp only [Act.put, List.setIfInBounds_toArray, List.set_cons_zero, List.set_cons_succ]
            refine wpAnyH_take (i := 3) (oi := { dst := some 148, op := Go.Op.move (Go.Operand.tmp 8), type := 33, pos := "law.go:109", after := #[{ on := 2, ground := Go.Ground.guard }], guard := some (2, true) }) (v := ?_) rfl (by kernel_rfl) (by kernel_rfl) (by kernel_rfl) (fun _ _ _ h => h) (Or.inl ⟨by rfl, ?_⟩) (by assumption) ?_
            rotate_left
            · (intro w hSw; (try dsimp only at hSw); go_simp); try with_reducible rfl
            try simp only [Act.put, List.setIfInBounds_toArray, List.set_cons_zero, List.set_cons_succ]
            refine wpAnyH_take (i := 4) (oi := { dst := some 149, op := Go.Op.binOp Go.BinOp.neq 33 (Go.Operand.tmp 148) (Go.Operand.const (Go.Value.pointer none)) 33, type := 4, pos := "law.go:109", after := #[{ on := 3, ground := Go.Ground.data }, { on := 2, ground := Go.Ground.guard }], guard := some (2, true) }) (v := ?_) rfl (by kernel_rfl) (by kernel_rfl) (by kernel_rfl) (fun _ _ _ h => h) (Or.inl ⟨by rfl, ?_⟩) (by assumption) ?_
            rotate_left
            · (intro w hSw; (try dsimp only at hSw); go_simp); try with_reducible rfl
            try simp only [Act.put, List.setIfInBounds_toArray, List.set_cons_zero, List.set_cons_succ]
            refine wpAnyH_take (i := 5) (oi := { dst := some 150, op := Go.Op.pick (Go.Operand.tmp 147) (Go.Operand.tmp 149) (Go.Operand.const (Go.Value.bool false)), type := 4, pos := "law.go:109", after := #[{ on := 2, ground := Go.Ground.data }, { on := 4, ground := Go.Ground.data }], guard := none }) (v := ?_) rfl (by kernel_rfl) (by kernel_rfl) (by kernel_rfl) (fun _ _ _ h => h) (Or.inl ⟨by rfl, ?_⟩) (by assumption) ?_
            rotate_left
            · (intro w hSw; (try dsimp only at hSw); go_simp); try with_reducible rfl
            try simp only [Act.put, List.setIfInBounds_toArray, List.set_cons_zero, List.set_cons_succ]
            refine wpAnyH_take (i := 6) (oi := { dst := some 151, op := Go.Op.move (Go.Operand.tmp 150), type := 4, pos := "law.go:109", after := #[{ on := 5, ground := Go.Ground.data }, { on := 2, ground := Go.Ground.chain }], guard := none }) (v := ?_) rfl (by kernel_rfl) (by kernel_rfl) (by kernel_rfl) (fun _ _ _ h => h) (Or.inl ⟨by rfl, ?_⟩) (by assumption) ?_
            rotate_left
            · (intro w hSw; (try dsimp only at hSw); go_simp); try with_reducible rfl
            try simp only [Act.put, List.setIfInBounds_toArray, List.set_cons_zero, List.set_cons_succ]
            refine wpAnyH_take (i := 7) (oi := { dst := some 152, op := Go.Op.move (Go.Operand.tmp 6), type := 29, pos := "law.go:109", after := #[{ on := 6, ground := Go.Ground.guard }], guard := some (6, true) }) (v := ?_) rfl (by kernel_rfl) (by kernel_rfl) (by kernel_rfl) (fun _ _ _ h => h) (Or.inl ⟨by rfl, ?_⟩) (by assumption) ?_
            rotate_left
            · (intro w hSw; (try dsimp only at hSw); go_simp); try with_reducible rfl
            try simp only [Act.put, List.setIfInBounds_toArray, List.set_cons_zero, List.set_cons_succ]
            refine wpAnyH_take (i := 9) (oi := { dst := some 154, op := Go.Op.move (Go.Operand.tmp 8), type := 33, pos := "law.go:109", after := #[{ on := 6, ground := Go.Ground.guard }], guard := some (6, true) }) (v := ?_) rfl (by kernel_rfl) (by kernel_rfl) (by kernel_rfl) (fun _ _ _ h => h) (Or.inl ⟨by rfl, ?_⟩) (by assumption) ?_
            rotate_left
            · (intro w hSw; (try dsimp only at hSw); go_simp); try with_reducible rfl
            try simp only [Act.put, List.setIfInBounds_toArray, List.set_cons_zero, List.set_cons_succ]
            refine wpAnyH_take (i := 10) (oi := { dst := some 155, op := Go.Op.nilCheck (Go.Operand.tmp 154), type := 0, pos := "law.go:109", after := #[{ on := 9, ground := Go.Ground.data }, { on := 6, ground := Go.Ground.guard }], guard := some (6, true) }) (v := ?_) rfl (by kernel_rfl) (by kernel_rfl) (by kernel_rfl) (fun _ _ _ h => h) (Or.inl ⟨by rfl, ?_⟩) (by assumption) ?_
            rotate_left
            · (intro w hSw; (try dsimp only at hSw); go_simp); try with_reducible rfl
            try simp only [Act.put, List.setIfInBounds_toArray, List.set_cons_zero, List.set_cons_succ]
            refine wpAnyH_take (i := 11) (oi := { dst := some 156, op := Go.Op.fieldAddr 49 (Go.Operand.tmp 155) 2, type := 0, pos := "law.go:109", after := #[{ on := 10, ground := Go.Ground.data }, { on := 6, ground := Go.Ground.guard }], guard := some (6, true) }) (v := ?_) rfl (by kernel_rfl) (by kernel_rfl) (by kernel_rfl) (fun _ _ _ h => h) (Or.inl ⟨by rfl, ?_⟩) (by assumption) ?_
            rotate_left
            · (intro w hSw; (try dsimp only at hSw); go_simp); try with_reducible rfl
            try simp only [Act.put, List.setIfInBounds_toArray, List.set_cons_zero, List.set_cons_succ]
            refine wpAnyH_take (i := 12) (oi := { dst := some 157, op := Go.Op.load 46 (Go.Operand.tmp 156), type := 46, pos := "law.go:109", after := #[{ on := 11, ground := Go.Ground.data }, { on := 6, ground := Go.Ground.guard }], guard := some (6, true) }) (v := ?_) rfl (by kernel_rfl) (by kernel_rfl) (by kernel_rfl) (fun _ _ _ h => h) (Or.inl ⟨by rfl, ?_⟩) (by assumption) ?_
            rotate_left
            · (intro w hSw; (try dsimp only at hSw); go_simp); try with_reducible rfl
            try simp only [Act.put, List.setIfInBounds_toArray, List.set_cons_zero, List.set_cons_succ]
            refine wpAnyH_ready (rs := [8]) (by kernel_rfl) (by simp) ?_
            refine (AllReadyH.cons (o := { dst := some 153, op := Go.Op.call { callee := Go.Callee.value (Go.Operand.func 25), args := #[Go.Operand.tmp 152], argTypes := #[29] }, type := 46, pos := "law.go:109", after := #[{ on := 7, ground := Go.Ground.data }, { on := 6, ground := Go.Ground.chain }, { on := 6, ground := Go.Ground.guard }], guard := some (6, true) }) rfl (fun K0 hK => ?_) AllReadyH.nil)
            have hbq9 := P44.bel (rk := rk9) (u := .slice Ak R9.length ckk) (w0 := w9) hHeld
            go_simp
            go_at_call 25
            with_reducible refine Calls.mono (HALL.out _ hbq9) ?_
            rintro e w98 ⟨Aa, ca, rfl, ta, hb⟩
            have TA := Lib.hid ta
            clear ta
            try go_wp2_with fail
            refine hK.out _ _ (P44.go (rk := rk9) (u := .slice Ak R9.length ckk) (w0 := w9) (by assumption) hb) (fun hHeld2 => ?_)
            clear hK K0 hHeld hb hbq9
            have hHeld := hHeld2; clear hHeld2
            try simp only [Act.put, List.setIfInBounds_toArray, List.set_cons_zero, List.set_cons_succ]
            refine wpAnyH_ready (rs := [13]) (by kernel_rfl) (by simp) ?_
            refine (AllReadyH.cons (o := { dst := some 158, op := Go.Op.call { callee := Go.Callee.value (Go.Operand.func 24), args := #[Go.Operand.tmp 153, Go.Operand.tmp 157], argTypes := #[46, 46] }, type := 4, pos := "law.go:109", after := #[{ on := 8, ground := Go.Ground.data }, { on := 12, ground := Go.Ground.data }, { on := 8, ground := Go.Ground.chain }, { on := 6, ground := Go.Ground.guard }], guard := some (6, true) }) rfl (fun K1 hK => ?_) AllReadyH.nil)
            have hbq9 := P44.bel (rk := rk9) (u := .slice Ak R9.length ckk) (w0 := w9) hHeld
            go_simp
            go_at_call 24
            with_reducible refine Calls.mono (sameT_any Aa ca Ak ckk R9 _ TA.out (HKT.out _ hbq9) HRL.out) ?_
            rintro e w913 ⟨rfl, hb⟩
            try go_wp2_with fail
            refine hK.out _ _ (P44.go (rk := rk9) (u := .slice Ak R9.length ckk) (w0 := w9) (by assumption) hb) (fun hHeld2 => ?_)
            clear hK K1 hHeld hb hbq9
            have hHeld := hHeld2; clear hHeld2
            try simp only [Act.put, List.setIfInBounds_toArray, List.set_cons_zero, List.set_cons_succ]
            refine wpAnyH_take (i := 14) (oi := { dst := some 159, op := Go.Op.unOp Go.UnOp.not 4 (Go.Operand.tmp 158), type := 4, pos := "law.go:109", after := #[{ on := 13, ground := Go.Ground.data }, { on := 6, ground := Go.Ground.guard }], guard := some (6, true) }) (v := ?_) rfl (by kernel_rfl) (by kernel_rfl) (by kernel_rfl) (fun _ _ _ h => h) (Or.inl ⟨by rfl, ?_⟩) (by assumption) ?_
            rotate_left
            · (intro w hSw; (try dsimp only at hSw); go_simp); try with_reducible rfl
            try simp only [Act.put, List.setIfInBounds_toArray, List.set_cons_zero, List.set_cons_succ]
            refine wpAnyH_take (i := 15) (oi := { dst := some 160, op := Go.Op.pick (Go.Operand.tmp 151) (Go.Operand.tmp 159) (Go.Operand.const (Go.Value.bool false)), type := 4, pos := "law.go:109", after := #[{ on := 6, ground := Go.Ground.data }, { on := 14, ground := Go.Ground.data }], guard := none }) (v := ?_) rfl (by kernel_rfl) (by kernel_rfl) (by kernel_rfl) (fun _ _ _ h => h) (Or.inl ⟨by rfl, ?_⟩) (by assumption) ?_
            rotate_left
            · (intro w hSw; (try dsimp only at hSw); go_simp); try with_reducible rfl
            try simp only [Act.put, List.setIfInBounds_toArray, List.set_cons_zero, List.set_cons_succ]
            refine wpAnyH_done (by kernel_rfl) ?_ _
            have HNB := Lib.hid (HI9.out.below (P44.bel (rk := rk9) (u := .slice Ak R9.length ckk) (w0 := w9) hHeld))
            clear hHeld HI9
            go_wp2
            go_roundw
            case rel => exact ⟨k + 1, c8, by omega, by go_num, rfl, rfl, HNB⟩
            case measure => simp [intOf]; omega
        by_cases h5 : K = 5
        · subst h5
          have HE0 := Lib.hid HI1.out.disk.e
          clear HI1 HOB o1 o2 o3
          go_wp2_with fail
          refine (jt_start HE0.out).mono ?_
          rintro e wa ⟨rfl, _, qa⟩
          have QA := Lib.hid qa
          clear qa HE0
          go_wp2_with fail
          refine QA.out.mono ?_
          rintro e wb ⟨rfl, _, hb1⟩
          have HE1 := Lib.hid hb1
          clear hb1 QA
          go_wp2_with fail
          refine (jt_open HE1.out hkk (by omega)).mono ?_
          rintro e wc ⟨j2, c8, rfl, _, qc⟩
          have QC := Lib.hid qc
          clear qc HE1
          go_wp2_with fail
          refine QC.out.mono ?_
          rintro e w9 ⟨q2, rfl, _, h9⟩
          have HI9 := Lib.hid h9
          have hee8 : (c8 != c8) = false := by simp
          clear h9 QC hee
          rcases HI9.out.shape with ⟨hj9, hq9⟩ | ⟨rj9, rk9, hj9, hq9⟩
          · subst hj9
            subst hq9
            go_upto_region 44 with fail
            refine wp_region_held_drew (S := (fun w' => Hid (Below w9.heap.size w9 w'))) (by kernel_rfl) ?_ (fun hHeld => ?_)
            · exact Lib.hid (below_drew w9 1)
            refine wpAnyH_take (i := 0) (oi := { dst := some 145, op := Go.Op.move (Go.Operand.tmp 6), type := 29, pos := "law.go:109", after := #[], guard := none }) (v := ?_) rfl (by kernel_rfl) (by kernel_rfl) (by kernel_rfl) (fun _ _ _ h => h) (Or.inl ⟨by rfl, ?_⟩) (by assumption) ?_
            rotate_left
            · (intro w hSw; (try dsimp only at hSw); go_simp); try with_reducible rfl
            try simp only [Act.put, List.setIfInBounds_toArray, List.set_cons_zero, List.set_cons_succ]
            refine wpAnyH_take (i := 1) (oi := { dst := some 146, op := Go.Op.binOp Go.BinOp.neq 29 (Go.Operand.tmp 145) (Go.Operand.const (Go.Value.pointer none)) 29, type := 4, pos := "law.go:109", after := #[{ on := 0, ground := Go.Ground.data }], guard := none }) (v := ?_) rfl (by kernel_rfl) (by kernel_rfl) (by kernel_rfl) (fun _ _ _ h => h) (Or.inl ⟨by rfl, ?_⟩) (by assumption) ?_
            rotate_left
            · (intro w hSw; (try dsimp only at hSw); go_simp); try with_reducible rfl
            try simp only [Act.put, List.setIfInBounds_toArray, List.set_cons_zero, List.set_cons_succ]
            refine wpAnyH_take (i := 2) (oi := { dst := some 147, op := Go.Op.move (Go.Operand.tmp 146), type := 4, pos := "law.go:109", after := #[{ on := 1, ground := Go.Ground.data }], guard := none }) (v := ?_) rfl (by kernel_rfl) (by kernel_rfl) (by kernel_rfl) (fun _ _ _ h => h) (Or.inl ⟨by rfl, ?_⟩) (by assumption) ?_
            rotate_left
            · (intro w hSw; (try dsimp only at hSw); go_simp); try with_reducible rfl
            try simp only [Act.put, List.setIfInBounds_toArray, List.set_cons_zero, List.set_cons_succ]
            refine wpAnyH_take (i := 3) (oi := { dst := some 148, op := Go.Op.move (Go.Operand.tmp 8), type := 33, pos := "law.go:109", after := #[{ on := 2, ground := Go.Ground.guard }], guard := some (2, true) }) (v := undef) rfl (by kernel_rfl) (by kernel_rfl) (by kernel_rfl) (fun _ _ _ h => h) (Or.inr ⟨by rfl, by rfl⟩) (by assumption) ?_
            try simp only [Act.put, List.setIfInBounds_toArray, List.set_cons_zero, List.set_cons_succ]
            refine wpAnyH_take (i := 4) (oi := { dst := some 149, op := Go.Op.binOp Go.BinOp.neq 33 (Go.Operand.tmp 148) (Go.Operand.const (Go.Value.pointer none)) 33, type := 4, pos := "law.go:109", after := #[{ on := 3, ground := Go.Ground.data }, { on := 2, ground := Go.Ground.guard }], guard := some (2, true) }) (v := undef) rfl (by kernel_rfl) (by kernel_rfl) (by kernel_rfl) (fun _ _ _ h => h) (Or.inr ⟨by rfl, by rfl⟩) (by assumption) ?_
            try simp only [Act.put, List.setIfInBounds_toArray, List.set_cons_zero, List.set_cons_succ]
            refine wpAnyH_take (i := 5) (oi := { dst := some 150, op := Go.Op.pick (Go.Operand.tmp 147) (Go.Operand.tmp 149) (Go.Operand.const (Go.Value.bool false)), type := 4, pos := "law.go:109", after := #[{ on := 2, ground := Go.Ground.data }, { on := 4, ground := Go.Ground.data }], guard := none }) (v := ?_) rfl (by kernel_rfl) (by kernel_rfl) (by kernel_rfl) (fun _ _ _ h => h) (Or.inl ⟨by rfl, ?_⟩) (by assumption) ?_
            rotate_left
            · (intro w hSw; (try dsimp only at hSw); go_simp); try with_reducible rfl
            try simp only [Act.put, List.setIfInBounds_toArray, List.set_cons_zero, List.set_cons_succ]
            refine wpAnyH_take (i := 6) (oi := { dst := some 151, op := Go.Op.move (Go.Operand.tmp 150), type := 4, pos := "law.go:109", after := #[{ on := 5, ground := Go.Ground.data }, { on := 2, ground := Go.Ground.chain }], guard := none }) (v := ?_) rfl (by kernel_rfl) (by kernel_rfl) (by kernel_rfl) (fun _ _ _ h => h) (Or.inl ⟨by rfl, ?_⟩) (by assumption) ?_
            rotate_left
            · (intro w hSw; (try dsimp only at hSw); go_simp); try with_reducible rfl
            try simp only [Act.put, List.setIfInBounds_toArray, List.set_cons_zero, List.set_cons_succ]
            refine wpAnyH_take (i := 7) (oi := { dst := some 152, op := Go.Op.move (Go.Operand.tmp 6), type := 29, pos := "law.go:109", after := #[{ on := 6, ground := Go.Ground.guard }], guard := some (6, true) }) (v := undef) rfl (by kernel_rfl) (by kernel_rfl) (by kernel_rfl) (fun _ _ _ h => h) (Or.inr ⟨by rfl, by rfl⟩) (by assumption) ?_
            try simp only [Act.put, List.setIfInBounds_toArray, List.set_cons_zero, List.set_cons_succ]
            refine wpAnyH_take (i := 8) (oi := { dst := some 153, op := Go.Op.call { callee := Go.Callee.value (Go.Operand.func 25), args := #[Go.Operand.tmp 152], argTypes := #[29] }, type := 46, pos := "law.go:109", after := #[{ on := 7, ground := Go.Ground.data }, { on := 6, ground := Go.Ground.chain }, { on := 6, ground := Go.Ground.guard }], guard := some (6, true) }) (v := undef) rfl (by kernel_rfl) (by kernel_rfl) (by kernel_rfl) (fun _ _ _ h => h) (Or.inr ⟨by rfl, by rfl⟩) (by assumption) ?_
            try simp only [Act.put, List.setIfInBounds_toArray, List.set_cons_zero, List.set_cons_succ]
            refine wpAnyH_take (i := 9) (oi := { dst := some 154, op := Go.Op.move (Go.Operand.tmp 8), type := 33, pos := "law.go:109", after := #[{ on := 6, ground := Go.Ground.guard }], guard := some (6, true) }) (v := undef) rfl (by kernel_rfl) (by kernel_rfl) (by kernel_rfl) (fun _ _ _ h => h) (Or.inr ⟨by rfl, by rfl⟩) (by assumption) ?_
            try simp only [Act.put, List.setIfInBounds_toArray, List.set_cons_zero, List.set_cons_succ]
            refine wpAnyH_take (i := 10) (oi := { dst := some 155, op := Go.Op.nilCheck (Go.Operand.tmp 154), type := 0, pos := "law.go:109", after := #[{ on := 9, ground := Go.Ground.data }, { on := 6, ground := Go.Ground.guard }], guard := some (6, true) }) (v := undef) rfl (by kernel_rfl) (by kernel_rfl) (by kernel_rfl) (fun _ _ _ h => h) (Or.inr ⟨by rfl, by rfl⟩) (by assumption) ?_
            try simp only [Act.put, List.setIfInBounds_toArray, List.set_cons_zero, List.set_cons_succ]
            refine wpAnyH_take (i := 11) (oi := { dst := some 156, op := Go.Op.fieldAddr 49 (Go.Operand.tmp 155) 2, type := 0, pos := "law.go:109", after := #[{ on := 10, ground := Go.Ground.data }, { on := 6, ground := Go.Ground.guard }], guard := some (6, true) }) (v := undef) rfl (by kernel_rfl) (by kernel_rfl) (by kernel_rfl) (fun _ _ _ h => h) (Or.inr ⟨by rfl, by rfl⟩) (by assumption) ?_
            try simp only [Act.put, List.setIfInBounds_toArray, List.set_cons_zero, List.set_cons_succ]
            refine wpAnyH_take (i := 12) (oi := { dst := some 157, op := Go.Op.load 46 (Go.Operand.tmp 156), type := 46, pos := "law.go:109", after := #[{ on := 11, ground := Go.Ground.data }, { on := 6, ground := Go.Ground.guard }], guard := some (6, true) }) (v := undef) rfl (by kernel_rfl) (by kernel_rfl) (by kernel_rfl) (fun _ _ _ h => h) (Or.inr ⟨by rfl, by rfl⟩) (by assumption) ?_
            try simp only [Act.put, List.setIfInBounds_toArray, List.set_cons_zero, List.set_cons_succ]
            refine wpAnyH_take (i := 13) (oi := { dst := some 158, op := Go.Op.call { callee := Go.Callee.value (Go.Operand.func 24), args := #[Go.Operand.tmp 153, Go.Operand.tmp 157], argTypes := #[46, 46] }, type := 4, pos := "law.go:109", after := #[{ on := 8, ground := Go.Ground.data }, { on := 12, ground := Go.Ground.data }, { on := 8, ground := Go.Ground.chain }, { on := 6, ground := Go.Ground.guard }], guard := some (6, true) }) (v := undef) rfl (by kernel_rfl) (by kernel_rfl) (by kernel_rfl) (fun _ _ _ h => h) (Or.inr ⟨by rfl, by rfl⟩) (by assumption) ?_
            try simp only [Act.put, List.setIfInBounds_toArray, List.set_cons_zero, List.set_cons_succ]
            refine wpAnyH_take (i := 14) (oi := { dst := some 159, op := Go.Op.unOp Go.UnOp.not 4 (Go.Operand.tmp 158), type := 4, pos := "law.go:109", after := #[{ on := 13, ground := Go.Ground.data }, { on := 6, ground := Go.Ground.guard }], guard := some (6, true) }) (v := undef) rfl (by kernel_rfl) (by kernel_rfl) (by kernel_rfl) (fun _ _ _ h => h) (Or.inr ⟨by rfl, by rfl⟩) (by assumption) ?_
            try simp only [Act.put, List.setIfInBounds_toArray, List.set_cons_zero, List.set_cons_succ]
            refine wpAnyH_take (i := 15) (oi := { dst := some 160, op := Go.Op.pick (Go.Operand.tmp 151) (Go.Operand.tmp 159) (Go.Operand.const (Go.Value.bool false)), type := 4, pos := "law.go:109", after := #[{ on := 6, ground := Go.Ground.data }, { on := 14, ground := Go.Ground.data }], guard := none }) (v := ?_) rfl (by kernel_rfl) (by kernel_rfl) (by kernel_rfl) (fun _ _ _ h => h) (Or.inl ⟨by rfl, ?_⟩) (by assumption) ?_
            rotate_left
            · (intro w hSw; (try dsimp only at hSw); go_simp); try with_reducible rfl
            try simp only [Act.put, List.setIfInBounds_toArray, List.set_cons_zero, List.set_cons_succ]
            refine wpAnyH_done (by kernel_rfl) ?_ _
            have HNB := Lib.hid (HI9.out.below (Hid.out hHeld))
            clear hHeld HI9
            go_wp2
            go_roundw
            case rel => exact ⟨k + 1, c8, by omega, by go_num, rfl, rfl, HNB⟩
            case measure => simp [intOf]; omega
          · subst hj9
            subst hq9
            obtain ⟨L9, d9, n9, g1, g2, ⟨g3, _⟩ | ⟨rj', v9, rk', R9, bad9, g3, g4, g5, g6, g7⟩⟩ := HI9.out
            · cases g3
            cases g3
            cases g4
            have hRl9 : R9.length ≤ (forms R9).length := forms_count
            obtain ⟨Ak, ckk, kk0, kk1, kk2, kk3, kkz, kkr⟩ := g6.cells
            have hkl := g6.lt
            obtain ⟨_, _, hke, hkt⟩ := TRow.of_own (O := fun _ => False) kkr (fun _ _ h => h)
            cases hke
            have HALL : Hid (∀ w', Below w9.heap.size w9 w' → Calls Tryz.prog 25 #[.pointer (some ⟨rj9, 0, none⟩)] w' (AllIs R9 w')) := Lib.hid (fun w' hb => all_is (g5.below hb) (by omega))
            have HKT : Hid (∀ w', Below w9.heap.size w9 w' → TRow (fun _ => False) w' Ak R9) := Lib.hid (fun w' hb => hkt.below hb)
            have HRL : Hid (R9.length ≤ 1099511627776) := Lib.hid (by omega)
            have E5 : Hid (P44 rk9 (.slice Ak R9.length ckk) w9 w9) := Lib.hid ⟨hkl, kk2, Lib.hid (Below.refl _ _)⟩
            clear g1 g2 g5 g6 g7 kk0 kk1 kk3 kkz kkr hkt hRl9 hkl
            go_upto_region 44 with fail
            refine wp_region_held_drew (S := (fun w' => rk9 < w'.heap.size ∧ w'.cell? ⟨rk9, 2, none⟩ = some (.slice Ak R9.length ckk) ∧ Hid (Below w9.heap.size w9 w'))) (by kernel_rfl) ?_ (fun hHeld => ?_)
            · exact P44.drewN E5.out 1
            refine wpAnyH_take (i := 0) (oi := { dst := some 145, op := Go.Op.move (Go.Operand.tmp 6), type := 29, pos := "law.go:109", after := #[], guard := none }) (v := ?_) rfl (by kernel_rfl) (by kernel_rfl) (by kernel_rfl) (fun _ _ _ h => h) (Or.inl ⟨by rfl, ?_⟩) (by assumption) ?_
            rotate_left
            · (intro w hSw; (try dsimp only at hSw); go_simp); try with_reducible rfl
            try simp only [Act.put, List.setIfInBounds_toArray, List.set_cons_zero, List.set_cons_succ]
            refine wpAnyH_take (i := 1) (oi := { dst := some 146, op := Go.Op.binOp Go.BinOp.neq 29 (Go.Operand.tmp 145) (Go.Operand.const (Go.Value.pointer none)) 29, type := 4, pos := "law.go:109", after := #[{ on := 0, ground := Go.Ground.data }], guard := none }) (v := ?_) rfl (by kernel_rfl) (by kernel_rfl) (by kernel_rfl) (fun _ _ _ h => h) (Or.inl ⟨by rfl, ?_⟩) (by assumption) ?_
            rotate_left
            · (intro w hSw; (try dsimp only at hSw); go_simp); try with_reducible rfl
            try simp only [Act.put, List.setIfInBounds_toArray, List.set_cons_zero, List.set_cons_succ]
            refine wpAnyH_take (i := 2) (oi := { dst := some 147, op := Go.Op.move (Go.Operand.tmp 146), type := 4, pos := "law.go:109", after := #[{ on := 1, ground := Go.Ground.data }], guard := none }) (v := ?_) rfl (by kernel_rfl) (by kernel_rfl) (by kernel_rfl) (fun _ _ _ h => h) (Or.inl ⟨by rfl, ?_⟩) (by assumption) ?_
            rotate_left
            · (intro w hSw; (try dsimp only at hSw); go_simp); try with_reducible rfl
            try simp only [Act.put, List.setIfInBounds_toArray, List.set_cons_zero, List.set_cons_succ]
            refine wpAnyH_take (i := 3) (oi := { dst := some 148, op := Go.Op.move (Go.Operand.tmp 8), type := 33, pos := "law.go:109", after := #[{ on := 2, ground := Go.Ground.guard }], guard := some (2, true) }) (v := ?_) rfl (by kernel_rfl) (by kernel_rfl) (by kernel_rfl) (fun _ _ _ h => h) (Or.inl ⟨by rfl, ?_⟩) (by assumption) ?_
            rotate_left
            · (intro w hSw; (try dsimp only at hSw); go_simp); try with_reducible rfl
            try simp only [Act.put, List.setIfInBounds_toArray, List.set_cons_zero, List.set_cons_succ]
            refine wpAnyH_take (i := 4) (oi := { dst := some 149, op := Go.Op.binOp Go.BinOp.neq 33 (Go.Operand.tmp 148) (Go.Operand.const (Go.Value.pointer none)) 33, type := 4, pos := "law.go:109", after := #[{ on := 3, ground := Go.Ground.data }, { on := 2, ground := Go.Ground.guard }], guard := some (2, true) }) (v := ?_) rfl (by kernel_rfl) (by kernel_rfl) (by kernel_rfl) (fun _ _ _ h => h) (Or.inl ⟨by rfl, ?_⟩) (by assumption) ?_
            rotate_left
            · (intro w hSw; (try dsimp only at hSw); go_simp); try with_reducible rfl
            try simp only [Act.put, List.setIfInBounds_toArray, List.set_cons_zero, List.set_cons_succ]
            refine wpAnyH_take (i := 5) (oi := { dst := some 150, op := Go.Op.pick (Go.Operand.tmp 147) (Go.Operand.tmp 149) (Go.Operand.const (Go.Value.bool false)), type := 4, pos := "law.go:109", after := #[{ on := 2, ground := Go.Ground.data }, { on := 4, ground := Go.Ground.data }], guard := none }) (v := ?_) rfl (by kernel_rfl) (by kernel_rfl) (by kernel_rfl) (fun _ _ _ h => h) (Or.inl ⟨by rfl, ?_⟩) (by assumption) ?_
            rotate_left
            · (intro w hSw; (try dsimp only at hSw); go_simp); try with_reducible rfl
            try simp only [Act.put, List.setIfInBounds_toArray, List.set_cons_zero, List.set_cons_succ]
            refine wpAnyH_take (i := 6) (oi := { dst := some 151, op := Go.Op.move (Go.Operand.tmp 150), type := 4, pos := "law.go:109", after := #[{ on := 5, ground := Go.Ground.data }, { on := 2, ground := Go.Ground.chain }], guard := none }) (v := ?_) rfl (by kernel_rfl) (by kernel_rfl) (by kernel_rfl) (fun _ _ _ h => h) (Or.inl ⟨by rfl, ?_⟩) (by assumption) ?_
            rotate_left
            · (intro w hSw; (try dsimp only at hSw); go_simp); try with_reducible rfl
            try simp only [Act.put, List.setIfInBounds_toArray, List.set_cons_zero, List.set_cons_succ]
            refine wpAnyH_take (i := 7) (oi := { dst := some 152, op := Go.Op.move (Go.Operand.tmp 6), type := 29, pos := "law.go:109", after := #[{ on := 6, ground := Go.Ground.guard }], guard := some (6, true) }) (v := ?_) rfl (by kernel_rfl) (by kernel_rfl) (by kernel_rfl) (fun _ _ _ h => h) (Or.inl ⟨by rfl, ?_⟩) (by assumption) ?_
            rotate_left
            · (intro w hSw; (try dsimp only at hSw); go_simp); try with_reducible rfl
            try simp only [Act.put, List.setIfInBounds_toArray, List.set_cons_zero, List.set_cons_succ]
            refine wpAnyH_take (i := 9) (oi := { dst := some 154, op := Go.Op.move (Go.Operand.tmp 8), type := 33, pos := "law.go:109", after := #[{ on := 6, ground := Go.Ground.guard }], guard := some (6, true) }) (v := ?_) rfl (by kernel_rfl) (by kernel_rfl) (by kernel_rfl) (fun _ _ _ h => h) (Or.inl ⟨by rfl, ?_⟩) (by assumption) ?_
            rotate_left
            · (intro w hSw; (try dsimp only at hSw); go_simp); try with_reducible rfl
            try simp only [Act.put, List.setIfInBounds_toArray, List.set_cons_zero, List.set_cons_succ]
            refine wpAnyH_take (i := 10) (oi := { dst := some 155, op := Go.Op.nilCheck (Go.Operand.tmp 154), type := 0, pos := "law.go:109", after := #[{ on := 9, ground := Go.Ground.data }, { on := 6, ground := Go.Ground.guard }], guard := some (6, true) }) (v := ?_) rfl (by kernel_rfl) (by kernel_rfl) (by kernel_rfl) (fun _ _ _ h => h) (Or.inl ⟨by rfl, ?_⟩) (by assumption) ?_
            rotate_left
            · (intro w hSw; (try dsimp only at hSw); go_simp); try with_reducible rfl
            try simp only [Act.put, List.setIfInBounds_toArray, List.set_cons_zero, List.set_cons_succ]
            refine wpAnyH_take (i := 11) (oi := { dst := some 156, op := Go.Op.fieldAddr 49 (Go.Operand.tmp 155) 2, type := 0, pos := "law.go:109", after := #[{ on := 10, ground := Go.Ground.data }, { on := 6, ground := Go.Ground.guard }], guard := some (6, true) }) (v := ?_) rfl (by kernel_rfl) (by kernel_rfl) (by kernel_rfl) (fun _ _ _ h => h) (Or.inl ⟨by rfl, ?_⟩) (by assumption) ?_
            rotate_left
            · (intro w hSw; (try dsimp only at hSw); go_simp); try with_reducible rfl
            try simp only [Act.put, List.setIfInBounds_toArray, List.set_cons_zero, List.set_cons_succ]
            refine wpAnyH_take (i := 12) (oi := { dst := some 157, op := Go.Op.load 46 (Go.Operand.tmp 156), type := 46, pos := "law.go:109", after := #[{ on := 11, ground := Go.Ground.data }, { on := 6, ground := Go.Ground.guard }], guard := some (6, true) }) (v := ?_) rfl (by kernel_rfl) (by kernel_rfl) (by kernel_rfl) (fun _ _ _ h => h) (Or.inl ⟨by rfl, ?_⟩) (by assumption) ?_
            rotate_left
            · (intro w hSw; (try dsimp only at hSw); go_simp); try with_reducible rfl
            try simp only [Act.put, List.setIfInBounds_toArray, List.set_cons_zero, List.set_cons_succ]
            refine wpAnyH_ready (rs := [8]) (by kernel_rfl) (by simp) ?_
            refine (AllReadyH.cons (o := { dst := some 153, op := Go.Op.call { callee := Go.Callee.value (Go.Operand.func 25), args := #[Go.Operand.tmp 152], argTypes := #[29] }, type := 46, pos := "law.go:109", after := #[{ on := 7, ground := Go.Ground.data }, { on := 6, ground := Go.Ground.chain }, { on := 6, ground := Go.Ground.guard }], guard := some (6, true) }) rfl (fun K0 hK => ?_) AllReadyH.nil)
            have hbq9 := P44.bel (rk := rk9) (u := .slice Ak R9.length ckk) (w0 := w9) hHeld
            go_simp
            go_at_call 25
            with_reducible refine Calls.mono (HALL.out _ hbq9) ?_
            rintro e w98 ⟨Aa, ca, rfl, ta, hb⟩
            have TA := Lib.hid ta
            clear ta
            try go_wp2_with fail
            refine hK.out _ _ (P44.go (rk := rk9) (u := .slice Ak R9.length ckk) (w0 := w9) (by assumption) hb) (fun hHeld2 => ?_)
            clear hK K0 hHeld hb hbq9
            have hHeld := hHeld2; clear hHeld2
            try simp only [Act.put, List.setIfInBounds_toArray, List.set_cons_zero, List.set_cons_succ]
            refine wpAnyH_ready (rs := [13]) (by kernel_rfl) (by simp) ?_
            refine (AllReadyH.cons (o := { dst := some 158, op := Go.Op.call { callee := Go.Callee.value (Go.Operand.func 24), args := #[Go.Operand.tmp 153, Go.Operand.tmp 157], argTypes := #[46, 46] }, type := 4, pos := "law.go:109", after := #[{ on := 8, ground := Go.Ground.data }, { on := 12, ground := Go.Ground.data }, { on := 8, ground := Go.Ground.chain }, { on := 6, ground := Go.Ground.guard }], guard := some (6, true) }) rfl (fun K1 hK => ?_) AllReadyH.nil)
            have hbq9 := P44.bel (rk := rk9) (u := .slice Ak R9.length ckk) (w0 := w9) hHeld
            go_simp
            go_at_call 24
            with_reducible refine Calls.mono (sameT_any Aa ca Ak ckk R9 _ TA.out (HKT.out _ hbq9) HRL.out) ?_
            rintro e w913 ⟨rfl, hb⟩
            try go_wp2_with fail
            refine hK.out _ _ (P44.go (rk := rk9) (u := .slice Ak R9.length ckk) (w0 := w9) (by assumption) hb) (fun hHeld2 => ?_)
            clear hK K1 hHeld hb hbq9
            have hHeld := hHeld2; clear hHeld2
            try simp only [Act.put, List.setIfInBounds_toArray, List.set_cons_zero, List.set_cons_succ]
            refine wpAnyH_take (i := 14) (oi := { dst := some 159, op := Go.Op.unOp Go.UnOp.not 4 (Go.Operand.tmp 158), type := 4, pos := "law.go:109", after := #[{ on := 13, ground := Go.Ground.data }, { on := 6, ground := Go.Ground.guard }], guard := some (6, true) }) (v := ?_) rfl (by kernel_rfl) (by kernel_rfl) (by kernel_rfl) (fun _ _ _ h => h) (Or.inl ⟨by rfl, ?_⟩) (by assumption) ?_
            rotate_left
            · (intro w hSw; (try dsimp only at hSw); go_simp); try with_reducible rfl
            try simp only [Act.put, List.setIfInBounds_toArray, List.set_cons_zero, List.set_cons_succ]
            refine wpAnyH_take (i := 15) (oi := { dst := some 160, op := Go.Op.pick (Go.Operand.tmp 151) (Go.Operand.tmp 159) (Go.Operand.const (Go.Value.bool false)), type := 4, pos := "law.go:109", after := #[{ on := 6, ground := Go.Ground.data }, { on := 14, ground := Go.Ground.data }], guard := none }) (v := ?_) rfl (by kernel_rfl) (by kernel_rfl) (by kernel_rfl) (fun _ _ _ h => h) (Or.inl ⟨by rfl, ?_⟩) (by assumption) ?_
            rotate_left
            · (intro w hSw; (try dsimp only at hSw); go_simp); try with_reducible rfl
            try simp only [Act.put, List.setIfInBounds_toArray, List.set_cons_zero, List.set_cons_succ]
            refine wpAnyH_done (by kernel_rfl) ?_ _
            have HNB := Lib.hid (HI9.out.below (P44.bel (rk := rk9) (u := .slice Ak R9.length ckk) (w0 := w9) hHeld))
            clear hHeld HI9
            go_wp2
            go_roundw
            case rel => exact ⟨k + 1, c8, by omega, by go_num, rfl, rfl, HNB⟩
            case measure => simp [intOf]; omega
        have h0b : (K == 0) = false := by simpa using h0
        have h1b : (K == 1) = false := by simpa using h1
        have h2b : (K == 2) = false := by simpa using h2
        have h3b : (K == 3) = false := by simpa using h3
        have h4b : (K == 4) = false := by simpa using h4
        have h5b : (K == 5) = false := by simpa using h5
        have HI9 := Lib.hid HI1.out.next
        clear HI1 HOB o1 o2 o3
        rcases HI9.out.shape with ⟨hj9, hq9⟩ | ⟨rj9, rk9, hj9, hq9⟩
        · subst hj9
          subst hq9
          go_upto_region 44 with fail
          refine wp_region_held_drew (S := (fun w' => Hid (Below W1.heap.size W1 w'))) (by kernel_rfl) ?_ (fun hHeld => ?_)
          · exact Lib.hid (below_drew W1 1)
          refine wpAnyH_take (i := 0) (oi := { dst := some 145, op := Go.Op.move (Go.Operand.tmp 6), type := 29, pos := "law.go:109", after := #[], guard := none }) (v := ?_) rfl (by kernel_rfl) (by kernel_rfl) (by kernel_rfl) (fun _ _ _ h => h) (Or.inl ⟨by rfl, ?_⟩) (by assumption) ?_
          rotate_left
          · (intro w hSw; (try dsimp only at hSw); go_simp); try with_reducible rfl
          try simp only [Act.put, List.setIfInBounds_toArray, List.set_cons_zero, List.set_cons_succ]
          refine wpAnyH_take (i := 1) (oi := { dst := some 146, op := Go.Op.binOp Go.BinOp.neq 29 (Go.Operand.tmp 145) (Go.Operand.const (Go.Value.pointer none)) 29, type := 4, pos := "law.go:109", after := #[{ on := 0, ground := Go.Ground.data }], guard := none }) (v := ?_) rfl (by kernel_rfl) (by kernel_rfl) (by kernel_rfl) (fun _ _ _ h => h) (Or.inl ⟨by rfl, ?_⟩) (by assumption) ?_
          rotate_left
          · (intro w hSw; (try dsimp only at hSw); go_simp); try with_reducible rfl
          try simp only [Act.put, List.setIfInBounds_toArray, List.set_cons_zero, List.set_cons_succ]
          refine wpAnyH_take (i := 2) (oi := { dst := some 147, op := Go.Op.move (Go.Operand.tmp 146), type := 4, pos := "law.go:109", after := #[{ on := 1, ground := Go.Ground.data }], guard := none }) (v := ?_) rfl (by kernel_rfl) (by kernel_rfl) (by kernel_rfl) (fun _ _ _ h => h) (Or.inl ⟨by rfl, ?_⟩) (by assumption) ?_
          rotate_left
          · (intro w hSw; (try dsimp only at hSw); go_simp); try with_reducible rfl
          try simp only [Act.put, List.setIfInBounds_toArray, List.set_cons_zero, List.set_cons_succ]
          refine wpAnyH_take (i := 3) (oi := { dst := some 148, op := Go.Op.move (Go.Operand.tmp 8), type := 33, pos := "law.go:109", after := #[{ on := 2, ground := Go.Ground.guard }], guard := some (2, true) }) (v := undef) rfl (by kernel_rfl) (by kernel_rfl) (by kernel_rfl) (fun _ _ _ h => h) (Or.inr ⟨by rfl, by rfl⟩) (by assumption) ?_
          try simp only [Act.put, List.setIfInBounds_toArray, List.set_cons_zero, List.set_cons_succ]
          refine wpAnyH_take (i := 4) (oi := { dst := some 149, op := Go.Op.binOp Go.BinOp.neq 33 (Go.Operand.tmp 148) (Go.Operand.const (Go.Value.pointer none)) 33, type := 4, pos := "law.go:109", after := #[{ on := 3, ground := Go.Ground.data }, { on := 2, ground := Go.Ground.guard }], guard := some (2, true) }) (v := undef) rfl (by kernel_rfl) (by kernel_rfl) (by kernel_rfl) (fun _ _ _ h => h) (Or.inr ⟨by rfl, by rfl⟩) (by assumption) ?_
          try simp only [Act.put, List.setIfInBounds_toArray, List.set_cons_zero, List.set_cons_succ]
          refine wpAnyH_take (i := 5) (oi := { dst := some 150, op := Go.Op.pick (Go.Operand.tmp 147) (Go.Operand.tmp 149) (Go.Operand.const (Go.Value.bool false)), type := 4, pos := "law.go:109", after := #[{ on := 2, ground := Go.Ground.data }, { on := 4, ground := Go.Ground.data }], guard := none }) (v := ?_) rfl (by kernel_rfl) (by kernel_rfl) (by kernel_rfl) (fun _ _ _ h => h) (Or.inl ⟨by rfl, ?_⟩) (by assumption) ?_
          rotate_left
          · (intro w hSw; (try dsimp only at hSw); go_simp); try with_reducible rfl
          try simp only [Act.put, List.setIfInBounds_toArray, List.set_cons_zero, List.set_cons_succ]
          refine wpAnyH_take (i := 6) (oi := { dst := some 151, op := Go.Op.move (Go.Operand.tmp 150), type := 4, pos := "law.go:109", after := #[{ on := 5, ground := Go.Ground.data }, { on := 2, ground := Go.Ground.chain }], guard := none }) (v := ?_) rfl (by kernel_rfl) (by kernel_rfl) (by kernel_rfl) (fun _ _ _ h => h) (Or.inl ⟨by rfl, ?_⟩) (by assumption) ?_
          rotate_left
          · (intro w hSw; (try dsimp only at hSw); go_simp); try with_reducible rfl
          try simp only [Act.put, List.setIfInBounds_toArray, List.set_cons_zero, List.set_cons_succ]
          refine wpAnyH_take (i := 7) (oi := { dst := some 152, op := Go.Op.move (Go.Operand.tmp 6), type := 29, pos := "law.go:109", after := #[{ on := 6, ground := Go.Ground.guard }], guard := some (6, true) }) (v := undef) rfl (by kernel_rfl) (by kernel_rfl) (by kernel_rfl) (fun _ _ _ h => h) (Or.inr ⟨by rfl, by rfl⟩) (by assumption) ?_
          try simp only [Act.put, List.setIfInBounds_toArray, List.set_cons_zero, List.set_cons_succ]
          refine wpAnyH_take (i := 8) (oi := { dst := some 153, op := Go.Op.call { callee := Go.Callee.value (Go.Operand.func 25), args := #[Go.Operand.tmp 152], argTypes := #[29] }, type := 46, pos := "law.go:109", after := #[{ on := 7, ground := Go.Ground.data }, { on := 6, ground := Go.Ground.chain }, { on := 6, ground := Go.Ground.guard }], guard := some (6, true) }) (v := undef) rfl (by kernel_rfl) (by kernel_rfl) (by kernel_rfl) (fun _ _ _ h => h) (Or.inr ⟨by rfl, by rfl⟩) (by assumption) ?_
          try simp only [Act.put, List.setIfInBounds_toArray, List.set_cons_zero, List.set_cons_succ]
          refine wpAnyH_take (i := 9) (oi := { dst := some 154, op := Go.Op.move (Go.Operand.tmp 8), type := 33, pos := "law.go:109", after := #[{ on := 6, ground := Go.Ground.guard }], guard := some (6, true) }) (v := undef) rfl (by kernel_rfl) (by kernel_rfl) (by kernel_rfl) (fun _ _ _ h => h) (Or.inr ⟨by rfl, by rfl⟩) (by assumption) ?_
          try simp only [Act.put, List.setIfInBounds_toArray, List.set_cons_zero, List.set_cons_succ]
          refine wpAnyH_take (i := 10) (oi := { dst := some 155, op := Go.Op.nilCheck (Go.Operand.tmp 154), type := 0, pos := "law.go:109", after := #[{ on := 9, ground := Go.Ground.data }, { on := 6, ground := Go.Ground.guard }], guard := some (6, true) }) (v := undef) rfl (by kernel_rfl) (by kernel_rfl) (by kernel_rfl) (fun _ _ _ h => h) (Or.inr ⟨by rfl, by rfl⟩) (by assumption) ?_
          try simp only [Act.put, List.setIfInBounds_toArray, List.set_cons_zero, List.set_cons_succ]
          refine wpAnyH_take (i := 11) (oi := { dst := some 156, op := Go.Op.fieldAddr 49 (Go.Operand.tmp 155) 2, type := 0, pos := "law.go:109", after := #[{ on := 10, ground := Go.Ground.data }, { on := 6, ground := Go.Ground.guard }], guard := some (6, true) }) (v := undef) rfl (by kernel_rfl) (by kernel_rfl) (by kernel_rfl) (fun _ _ _ h => h) (Or.inr ⟨by rfl, by rfl⟩) (by assumption) ?_
          try simp only [Act.put, List.setIfInBounds_toArray, List.set_cons_zero, List.set_cons_succ]
          refine wpAnyH_take (i := 12) (oi := { dst := some 157, op := Go.Op.load 46 (Go.Operand.tmp 156), type := 46, pos := "law.go:109", after := #[{ on := 11, ground := Go.Ground.data }, { on := 6, ground := Go.Ground.guard }], guard := some (6, true) }) (v := undef) rfl (by kernel_rfl) (by kernel_rfl) (by kernel_rfl) (fun _ _ _ h => h) (Or.inr ⟨by rfl, by rfl⟩) (by assumption) ?_
          try simp only [Act.put, List.setIfInBounds_toArray, List.set_cons_zero, List.set_cons_succ]
          refine wpAnyH_take (i := 13) (oi := { dst := some 158, op := Go.Op.call { callee := Go.Callee.value (Go.Operand.func 24), args := #[Go.Operand.tmp 153, Go.Operand.tmp 157], argTypes := #[46, 46] }, type := 4, pos := "law.go:109", after := #[{ on := 8, ground := Go.Ground.data }, { on := 12, ground := Go.Ground.data }, { on := 8, ground := Go.Ground.chain }, { on := 6, ground := Go.Ground.guard }], guard := some (6, true) }) (v := undef) rfl (by kernel_rfl) (by kernel_rfl) (by kernel_rfl) (fun _ _ _ h => h) (Or.inr ⟨by rfl, by rfl⟩) (by assumption) ?_
          try simp only [Act.put, List.setIfInBounds_toArray, List.set_cons_zero, List.set_cons_succ]
          refine wpAnyH_take (i := 14) (oi := { dst := some 159, op := Go.Op.unOp Go.UnOp.not 4 (Go.Operand.tmp 158), type := 4, pos := "law.go:109", after := #[{ on := 13, ground := Go.Ground.data }, { on := 6, ground := Go.Ground.guard }], guard := some (6, true) }) (v := undef) rfl (by kernel_rfl) (by kernel_rfl) (by kernel_rfl) (fun _ _ _ h => h) (Or.inr ⟨by rfl, by rfl⟩) (by assumption) ?_
          try simp only [Act.put, List.setIfInBounds_toArray, List.set_cons_zero, List.set_cons_succ]
          refine wpAnyH_take (i := 15) (oi := { dst := some 160, op := Go.Op.pick (Go.Operand.tmp 151) (Go.Operand.tmp 159) (Go.Operand.const (Go.Value.bool false)), type := 4, pos := "law.go:109", after := #[{ on := 6, ground := Go.Ground.data }, { on := 14, ground := Go.Ground.data }], guard := none }) (v := ?_) rfl (by kernel_rfl) (by kernel_rfl) (by kernel_rfl) (fun _ _ _ h => h) (Or.inl ⟨by rfl, ?_⟩) (by assumption) ?_
          rotate_left
          · (intro w hSw; (try dsimp only at hSw); go_simp); try with_reducible rfl
          try simp only [Act.put, List.setIfInBounds_toArray, List.set_cons_zero, List.set_cons_succ]
          refine wpAnyH_done (by kernel_rfl) ?_ _
          have HNB := Lib.hid (HI9.out.below (Hid.out hHeld))
          clear hHeld HI9
          go_wp2
          go_roundw
          case rel => exact ⟨k + 1, c, by omega, by go_num, rfl, rfl, HNB⟩
          case measure => simp [intOf]; omega
        · subst hj9
          subst hq9
          obtain ⟨L9, d9, n9, g1, g2, ⟨g3, _⟩ | ⟨rj', v9, rk', R9, bad9, g3, g4, g5, g6, g7⟩⟩ := HI9.out
          · cases g3
          cases g3
          cases g4
          have hRl9 : R9.length ≤ (forms R9).length := forms_count
          obtain ⟨Ak, ckk, kk0, kk1, kk2, kk3, kkz, kkr⟩ := g6.cells
          have hkl := g6.lt
          obtain ⟨_, _, hke, hkt⟩ := TRow.of_own (O := fun _ => False) kkr (fun _ _ h => h)
          cases hke
          have HALL : Hid (∀ w', Below W1.heap.size W1 w' → Calls Tryz.prog 25 #[.pointer (some ⟨rj9, 0, none⟩)] w' (AllIs R9 w')) := Lib.hid (fun w' hb => all_is (g5.below hb) (by omega))
          have HKT : Hid (∀ w', Below W1.heap.size W1 w' → TRow (fun _ => False) w' Ak R9) := Lib.hid (fun w' hb => hkt.below hb)
          have HRL : Hid (R9.length ≤ 1099511627776) := Lib.hid (by omega)
          have E5 : Hid (P44 rk9 (.slice Ak R9.length ckk) W1 W1) := Lib.hid ⟨hkl, kk2, Lib.hid (Below.refl _ _)⟩
          clear g1 g2 g5 g6 g7 kk0 kk1 kk3 kkz kkr hkt hRl9 hkl
          go_upto_region 44 with fail
          refine wp_region_held_drew (S := (fun w' => rk9 < w'.heap.size ∧ w'.cell? ⟨rk9, 2, none⟩ = some (.slice Ak R9.length ckk) ∧ Hid (Below W1.heap.size W1 w'))) (by kernel_rfl) ?_ (fun hHeld => ?_)
          · exact P44.drewN E5.out 1
          refine wpAnyH_take (i := 0) (oi := { dst := some 145, op := Go.Op.move (Go.Operand.tmp 6), type := 29, pos := "law.go:109", after := #[], guard := none }) (v := ?_) rfl (by kernel_rfl) (by kernel_rfl) (by kernel_rfl) (fun _ _ _ h => h) (Or.inl ⟨by rfl, ?_⟩) (by assumption) ?_
          rotate_left
          · (intro w hSw; (try dsimp only at hSw); go_simp); try with_reducible rfl
          try simp only [Act.put, List.setIfInBounds_toArray, List.set_cons_zero, List.set_cons_succ]
          refine wpAnyH_take (i := 1) (oi := { dst := some 146, op := Go.Op.binOp Go.BinOp.neq 29 (Go.Operand.tmp 145) (Go.Operand.const (Go.Value.pointer none)) 29, type := 4, pos := "law.go:109", after := #[{ on := 0, ground := Go.Ground.data }], guard := none }) (v := ?_) rfl (by kernel_rfl) (by kernel_rfl) (by kernel_rfl) (fun _ _ _ h => h) (Or.inl ⟨by rfl, ?_⟩) (by assumption) ?_
          rotate_left
          · (intro w hSw; (try dsimp only at hSw); go_simp); try with_reducible rfl
          try simp only [Act.put, List.setIfInBounds_toArray, List.set_cons_zero, List.set_cons_succ]
          refine wpAnyH_take (i := 2) (oi := { dst := some 147, op := Go.Op.move (Go.Operand.tmp 146), type := 4, pos := "law.go:109", after := #[{ on := 1, ground := Go.Ground.data }], guard := none }) (v := ?_) rfl (by kernel_rfl) (by kernel_rfl) (by kernel_rfl) (fun _ _ _ h => h) (Or.inl ⟨by rfl, ?_⟩) (by assumption) ?_
          rotate_left
          · (intro w hSw; (try dsimp only at hSw); go_simp); try with_reducible rfl
          try simp only [Act.put, List.setIfInBounds_toArray, List.set_cons_zero, List.set_cons_succ]
          refine wpAnyH_take (i := 3) (oi := { dst := some 148, op := Go.Op.move (Go.Operand.tmp 8), type := 33, pos := "law.go:109", after := #[{ on := 2, ground := Go.Ground.guard }], guard := some (2, true) }) (v := ?_) rfl (by kernel_rfl) (by kernel_rfl) (by kernel_rfl) (fun _ _ _ h => h) (Or.inl ⟨by rfl, ?_⟩) (by assumption) ?_
          rotate_left
          · (intro w hSw; (try dsimp only at hSw); go_simp); try with_reducible rfl
          try simp only [Act.put, List.setIfInBounds_toArray, List.set_cons_zero, List.set_cons_succ]
          refine wpAnyH_take (i := 4) (oi := { dst := some 149, op := Go.Op.binOp Go.BinOp.neq 33 (Go.Operand.tmp 148) (Go.Operand.const (Go.Value.pointer none)) 33, type := 4, pos := "law.go:109", after := #[{ on := 3, ground := Go.Ground.data }, { on := 2, ground := Go.Ground.guard }], guard := some (2, true) }) (v := ?_) rfl (by kernel_rfl) (by kernel_rfl) (by kernel_rfl) (fun _ _ _ h => h) (Or.inl ⟨by rfl, ?_⟩) (by assumption) ?_
          rotate_left
          · (intro w hSw; (try dsimp only at hSw); go_simp); try with_reducible rfl
          try simp only [Act.put, List.setIfInBounds_toArray, List.set_cons_zero, List.set_cons_succ]
          refine wpAnyH_take (i := 5) (oi := { dst := some 150, op := Go.Op.pick (Go.Operand.tmp 147) (Go.Operand.tmp 149) (Go.Operand.const (Go.Value.bool false)), type := 4, pos := "law.go:109", after := #[{ on := 2, ground := Go.Ground.data }, { on := 4, ground := Go.Ground.data }], guard := none }) (v := ?_) rfl (by kernel_rfl) (by kernel_rfl) (by kernel_rfl) (fun _ _ _ h => h) (Or.inl ⟨by rfl, ?_⟩) (by assumption) ?_
          rotate_left
          · (intro w hSw; (try dsimp only at hSw); go_simp); try with_reducible rfl
          try simp only [Act.put, List.setIfInBounds_toArray, List.set_cons_zero, List.set_cons_succ]
          refine wpAnyH_take (i := 6) (oi := { dst := some 151, op := Go.Op.move (Go.Operand.tmp 150), type := 4, pos := "law.go:109", after := #[{ on := 5, ground := Go.Ground.data }, { on := 2, ground := Go.Ground.chain }], guard := none }) (v := ?_) rfl (by kernel_rfl) (by kernel_rfl) (by kernel_rfl) (fun _ _ _ h => h) (Or.inl ⟨by rfl, ?_⟩) (by assumption) ?_
          rotate_left
          · (intro w hSw; (try dsimp only at hSw); go_simp); try with_reducible rfl
          try simp only [Act.put, List.setIfInBounds_toArray, List.set_cons_zero, List.set_cons_succ]
          refine wpAnyH_take (i := 7) (oi := { dst := some 152, op := Go.Op.move (Go.Operand.tmp 6), type := 29, pos := "law.go:109", after := #[{ on := 6, ground := Go.Ground.guard }], guard := some (6, true) }) (v := ?_) rfl (by kernel_rfl) (by kernel_rfl) (by kernel_rfl) (fun _ _ _ h => h) (Or.inl ⟨by rfl, ?_⟩) (by assumption) ?_
          rotate_left
          · (intro w hSw; (try dsimp only at hSw); go_simp); try with_reducible rfl
          try simp only [Act.put, List.setIfInBounds_toArray, List.set_cons_zero, List.set_cons_succ]
          refine wpAnyH_take (i := 9) (oi := { dst := some 154, op := Go.Op.move (Go.Operand.tmp 8), type := 33, pos := "law.go:109", after := #[{ on := 6, ground := Go.Ground.guard }], guard := some (6, true) }) (v := ?_) rfl (by kernel_rfl) (by kernel_rfl) (by kernel_rfl) (fun _ _ _ h => h) (Or.inl ⟨by rfl, ?_⟩) (by assumption) ?_
          rotate_left
          · (intro w hSw; (try dsimp only at hSw); go_simp); try with_reducible rfl
          try simp only [Act.put, List.setIfInBounds_toArray, List.set_cons_zero, List.set_cons_succ]
          refine wpAnyH_take (i := 10) (oi := { dst := some 155, op := Go.Op.nilCheck (Go.Operand.tmp 154), type := 0, pos := "law.go:109", after := #[{ on := 9, ground := Go.Ground.data }, { on := 6, ground := Go.Ground.guard }], guard := some (6, true) }) (v := ?_) rfl (by kernel_rfl) (by kernel_rfl) (by kernel_rfl) (fun _ _ _ h => h) (Or.inl ⟨by rfl, ?_⟩) (by assumption) ?_
          rotate_left
          · (intro w hSw; (try dsimp only at hSw); go_simp); try with_reducible rfl
          try simp only [Act.put, List.setIfInBounds_toArray, List.set_cons_zero, List.set_cons_succ]
          refine wpAnyH_take (i := 11) (oi := { dst := some 156, op := Go.Op.fieldAddr 49 (Go.Operand.tmp 155) 2, type := 0, pos := "law.go:109", after := #[{ on := 10, ground := Go.Ground.data }, { on := 6, ground := Go.Ground.guard }], guard := some (6, true) }) (v := ?_) rfl (by kernel_rfl) (by kernel_rfl) (by kernel_rfl) (fun _ _ _ h => h) (Or.inl ⟨by rfl, ?_⟩) (by assumption) ?_
          rotate_left
          · (intro w hSw; (try dsimp only at hSw); go_simp); try with_reducible rfl
          try simp only [Act.put, List.setIfInBounds_toArray, List.set_cons_zero, List.set_cons_succ]
          refine wpAnyH_take (i := 12) (oi := { dst := some 157, op := Go.Op.load 46 (Go.Operand.tmp 156), type := 46, pos := "law.go:109", after := #[{ on := 11, ground := Go.Ground.data }, { on := 6, ground := Go.Ground.guard }], guard := some (6, true) }) (v := ?_) rfl (by kernel_rfl) (by kernel_rfl) (by kernel_rfl) (fun _ _ _ h => h) (Or.inl ⟨by rfl, ?_⟩) (by assumption) ?_
          rotate_left
          · (intro w hSw; (try dsimp only at hSw); go_simp); try with_reducible rfl
          try simp only [Act.put, List.setIfInBounds_toArray, List.set_cons_zero, List.set_cons_succ]
          refine wpAnyH_ready (rs := [8]) (by kernel_rfl) (by simp) ?_
          refine (AllReadyH.cons (o := { dst := some 153, op := Go.Op.call { callee := Go.Callee.value (Go.Operand.func 25), args := #[Go.Operand.tmp 152], argTypes := #[29] }, type := 46, pos := "law.go:109", after := #[{ on := 7, ground := Go.Ground.data }, { on := 6, ground := Go.Ground.chain }, { on := 6, ground := Go.Ground.guard }], guard := some (6, true) }) rfl (fun K0 hK => ?_) AllReadyH.nil)
          have hbq9 := P44.bel (rk := rk9) (u := .slice Ak R9.length ckk) (w0 := W1) hHeld
          go_simp
          go_at_call 25
          with_reducible refine Calls.mono (HALL.out _ hbq9) ?_
          rintro e w98 ⟨Aa, ca, rfl, ta, hb⟩
          have TA := Lib.hid ta
          clear ta
          try go_wp2_with fail
          refine hK.out _ _ (P44.go (rk := rk9) (u := .slice Ak R9.length ckk) (w0 := W1) (by assumption) hb) (fun hHeld2 => ?_)
          clear hK K0 hHeld hb hbq9
          have hHeld := hHeld2; clear hHeld2
          try simp only [Act.put, List.setIfInBounds_toArray, List.set_cons_zero, List.set_cons_succ]
          refine wpAnyH_ready (rs := [13]) (by kernel_rfl) (by simp) ?_
          refine (AllReadyH.cons (o := { dst := some 158, op := Go.Op.call { callee := Go.Callee.value (Go.Operand.func 24), args := #[Go.Operand.tmp 153, Go.Operand.tmp 157], argTypes := #[46, 46] }, type := 4, pos := "law.go:109", after := #[{ on := 8, ground := Go.Ground.data }, { on := 12, ground := Go.Ground.data }, { on := 8, ground := Go.Ground.chain }, { on := 6, ground := Go.Ground.guard }], guard := some (6, true) }) rfl (fun K1 hK => ?_) AllReadyH.nil)
          have hbq9 := P44.bel (rk := rk9) (u := .slice Ak R9.length ckk) (w0 := W1) hHeld
          go_simp
          go_at_call 24
          with_reducible refine Calls.mono (sameT_any Aa ca Ak ckk R9 _ TA.out (HKT.out _ hbq9) HRL.out) ?_
          rintro e w913 ⟨rfl, hb⟩
          try go_wp2_with fail
          refine hK.out _ _ (P44.go (rk := rk9) (u := .slice Ak R9.length ckk) (w0 := W1) (by assumption) hb) (fun hHeld2 => ?_)
          clear hK K1 hHeld hb hbq9
          have hHeld := hHeld2; clear hHeld2
          try simp only [Act.put, List.setIfInBounds_toArray, List.set_cons_zero, List.set_cons_succ]
          refine wpAnyH_take (i := 14) (oi := { dst := some 159, op := Go.Op.unOp Go.UnOp.not 4 (Go.Operand.tmp 158), type := 4, pos := "law.go:109", after := #[{ on := 13, ground := Go.Ground.data }, { on := 6, ground := Go.Ground.guard }], guard := some (6, true) }) (v := ?_) rfl (by kernel_rfl) (by kernel_rfl) (by kernel_rfl) (fun _ _ _ h => h) (Or.inl ⟨by rfl, ?_⟩) (by assumption) ?_
          rotate_left
          · (intro w hSw; (try dsimp only at hSw); go_simp); try with_reducible rfl
          try simp only [Act.put, List.setIfInBounds_toArray, List.set_cons_zero, List.set_cons_succ]
          refine wpAnyH_take (i := 15) (oi := { dst := some 160, op := Go.Op.pick (Go.Operand.tmp 151) (Go.Operand.tmp 159) (Go.Operand.const (Go.Value.bool false)), type := 4, pos := "law.go:109", after := #[{ on := 6, ground := Go.Ground.data }, { on := 14, ground := Go.Ground.data }], guard := none }) (v := ?_) rfl (by kernel_rfl) (by kernel_rfl) (by kernel_rfl) (fun _ _ _ h => h) (Or.inl ⟨by rfl, ?_⟩) (by assumption) ?_
          rotate_left
          · (intro w hSw; (try dsimp only at hSw); go_simp); try with_reducible rfl
          try simp only [Act.put, List.setIfInBounds_toArray, List.set_cons_zero, List.set_cons_succ]
          refine wpAnyH_done (by kernel_rfl) ?_ _
          have HNB := Lib.hid (HI9.out.below (P44.bel (rk := rk9) (u := .slice Ak R9.length ckk) (w0 := W1) hHeld))
          clear hHeld HI9
          go_wp2
          go_roundw
          case rel => exact ⟨k + 1, c, by omega, by go_num, rfl, rfl, HNB⟩
          case measure => simp [intOf]; omega
    · obtain rfl : k = l.length := by omega
      have HE0 := Lib.hid hI.out.disk.e
      clear hI
      go_wp2_with fail
      refine (jt_start HE0.out).mono ?_
      rintro e wa ⟨rfl, _, qa⟩
      have QA := Lib.hid qa
      clear qa HE0
      go_wp2_with fail
      refine QA.out.mono ?_
      rintro e wb ⟨rfl, _, L, d, n, h1, h5, h2⟩
      have H5 := Lib.hid h5
      have H2 := Lib.hid h2
      have hbig := h2.ok.big 3
      clear h5 h2 QA
      go_wp2_with fail
      refine (mSize H5.out.at_ in3).mono ?_
      rintro e wc ⟨rfl, hwc⟩
      subst hwc
      go_wp2_with fail
      refine (mRead H5.out.at_ (by omega) in3 in0 (by unfold In64; omega)).mono ?_
      rintro e wd ⟨sa, rfl, hsa, hbd⟩
      have H6 := Lib.hid (H5.out.below hbd)
      have H7 := Lib.hid (H2.out.below hbd)
      have HSA := Lib.hid hsa
      clear hsa hbd H5 H2
      go_wp2_with fail
      refine (rd_size H7.out (by omega) 3).mono ?_
      rintro e we ⟨rfl, hbe⟩
      have H8 := Lib.hid (H6.out.below hbe)
      have H9 := Lib.hid (H7.out.below hbe)
      clear hbe H6 H7
      go_wp2_with fail
      refine (rd_read H9.out (by omega) 3 0 _ in0 (by unfold In64; omega)).mono ?_
      rintro e wf ⟨sb, rfl, hsb, hbf⟩
      obtain rfl : sb = sa := ByteArray.ext (Array.toList_inj.1 (hsb.trans HSA.out.symm))
      have HZ := Lib.hid (H8.out.below hbf).bel
      clear hsb hbf H8 H9 HSA
      generalize (d.read 3 0 ((d.now 3).length : Int)).2 = c at *
      go_wp2
      go_ret
      exact ⟨rfl, HZ.out⟩

end Go.Proofs.YtbpkcgkcamkggaaGreatDoor
