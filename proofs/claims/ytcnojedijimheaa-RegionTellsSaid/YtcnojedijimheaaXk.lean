/-
  Contracts of the reference of layer 6 (13): Parts, in general.
-/
import Derived.Test.YtcnojedijimheaaXj
import Derived.Test.YtcnojedijimheaaKk
import Derived.Test.YtcnojedijimheaaKr
set_option linter.unusedVariables false
set_option maxRecDepth 100000
namespace Go.Proofs.Ytcnojedijimheaa
open Go.RowKit

def Tz (rb j g q eb p : Nat) (u v : Rc) (w0 w : World) : Prop := w.cell? ⟨rb, j, none⟩ = some (.bool false) ∧ w.cell? ⟨g, q * 4, none⟩ = some (.int .i64 u.X0) ∧ w.cell? ⟨g, q * 4 + 1, none⟩ = some (.int .i64 u.Y0) ∧ w.cell? ⟨g, q * 4 + 2, none⟩ = some (.int .i64 u.X1) ∧ w.cell? ⟨g, q * 4 + 3, none⟩ = some (.int .i64 u.Y1) ∧ w.cell? ⟨eb, p, none⟩ = some (.int .i64 v.X0) ∧ w.cell? ⟨eb, p + 1, none⟩ = some (.int .i64 v.Y0) ∧ w.cell? ⟨eb, p + 2, none⟩ = some (.int .i64 v.X1) ∧ w.cell? ⟨eb, p + 3, none⟩ = some (.int .i64 v.Y1) ∧ rb < w.heap.size ∧ g < w.heap.size ∧ eb < w.heap.size ∧ Hid (Below w0.heap.size w0 w)
theorem Tz.go {rb j g q eb p : Nat} {u v : Rc} {w0 w w' : World} (h : Tz rb j g q eb p u v w0 w) (hb : Below w.heap.size w w') : Tz rb j g q eb p u v w0 w' := by
  obtain ⟨h0, a0, a1, a2, a3, b0, b1, b2, b3, l0, l1, l2, hh⟩ := h
  have c := fun b o (hb2 : b < w.heap.size) => hb.cell (p := ⟨b, o, none⟩) hb2
  exact ⟨(c _ _ l0).trans h0, (c _ _ l1).trans a0, (c _ _ l1).trans a1, (c _ _ l1).trans a2, (c _ _ l1).trans a3, (c _ _ l2).trans b0, (c _ _ l2).trans b1, (c _ _ l2).trans b2, (c _ _ l2).trans b3, Nat.lt_of_lt_of_le l0 hb.size, Nat.lt_of_lt_of_le l1 hb.size, Nat.lt_of_lt_of_le l2 hb.size, Lib.hid (hh.out.trans (hb.mono hh.out.size))⟩
theorem Tz.drewN {rb j g q eb p : Nat} {u v : Rc} {w0 w : World} (h : Tz rb j g q eb p u v w0 w) (n : Nat) : Tz rb j g q eb p u v w0 (w.drewN n) := h.go (below_drewN (Below.refl _ _) n)
/-- the part found from rectangle k is one of a's, and its form has few rectangles. -/
theorem conn_of {a : List Rc} (hr : RegP a) {k : Nat} (c : (partsN a k).1.getD k true = false) : (∀ r ∈ (connM a k (partsN a k).1).2, ROk r) ∧ (ofR (connM a k (partsN a k).1).2).1 = formL (connM a k (partsN a k).1).2 := by
  have hl := partsN_len a k
  have hsub : ∀ r ∈ (connM a k (partsN a k).1).2, r ∈ a := fun r hm => by
    have h1 := (connM_perm hl c).subset (List.mem_append_left _ hm)
    obtain ⟨j, hj, _, rfl⟩ := unr_mem.1 h1
    rw [getD_in _ _ hj]; exact List.getElem_mem _
  have hok : ∀ r ∈ (connM a k (partsN a k).1).2, ROk r := fun r hm => form_ok hr.1 r (hsub r hm)
  have hfl : Flush (connM a k (partsN a k).1).2 := fun r hm q hq => form_flush hr.1 r (hsub r hm) q (hsub q hq)
  have h1 := form_le hok hfl
  have h2 := (connM_len hl c).2
  have h3 := hr.2
  exact ⟨hok, by rw [ofR_yes hok (by omega) (by omega)]⟩
theorem look_ok {a : List Rc} (ha : ∀ r ∈ a, ROk r) {u : Rc} {i : Nat} {s : CS} (hs : ∀ r ∈ s.2, ROk r) : ∀ r ∈ (lookI a u i s).2, ROk r := by
  unfold lookI
  split
  · rename_i h
    intro r hm
    rcases List.mem_append.1 hm with hm | hm
    · exact hs r hm
    · rw [List.mem_singleton] at hm; subst hm; exact h.2.2.1
  · exact hs
theorem lookN_ok {a : List Rc} (ha : ∀ r ∈ a, ROk r) {u : Rc} {s : CS} (hs : ∀ r ∈ s.2, ROk r) : ∀ k, ∀ r ∈ (lookN a u k s).2, ROk r
  | 0 => hs
  | k + 1 => look_ok ha (lookN_ok ha hs k)
set_option maxHeartbeats 64000000 in
theorem vparts_yes (A : Option Addr) (cap : Nat) (a : List Rc) (w : World) (h : RIn w A cap a) (hr : RegP a) : Calls Try.prog 47 #[.slice A a.length cap] w (PartsRes (partsR a) w) := by
  have RA := Lib.hid (vRight_yes A cap a w h.row h.len hr)
  have HROW := Lib.hid h.row
  have HCOF := Lib.hid (fun k c => conn_of hr (k := k) c)
  have HAOK := Lib.hid (form_ok hr.1)
  have hal := hr.2
  clear h hr
  have hmk := mkBs a.length hal
  obtain ⟨i0, hi9, hz0, hz1, hz2⟩ := info_parts infoRects
  obtain ⟨j0, hj9, hy0, hy1, hy2⟩ := info_parts infoRect
  have HZ : Hid (∀ w1 : World, Below w.heap.size w w1 → PL w1.heap.size a.length (partsN a 0).1 (partsL 0 a) [] (.slice none 0 0) w (w1.alloc (.cells (bcells (List.replicate a.length false)).toArray 4))) := Lib.hid (fun w1 hb => by
    refine ⟨World.ownsRow_nil _ _ _ _, fun j hj => by simp [partsL, partsN] at hj, ?_, hb.alloc hb.size _⟩
    have hl := World.ownsRow_lit (base := w1.heap.size) w1 (bcells (List.replicate a.length false)).toArray a.length (Nat.le_refl _) (by unfold maxLen; omega) (e := 4) (size := 1) (by simp [bcells])
    exact hl)
  generalize (bcells (List.replicate a.length false)).toArray = Z at *
  go_enter Try.func47, Try.ntmps47
  go_wp2_with fail
  refine RA.out.mono ?_
  rintro e1 w1 ⟨rfl, hb⟩
  have HB1 := Lib.hid hb; clear hb RA
  have P0 := Lib.hid (HZ.out w1 HB1.out)
  go_wp2_with fail
  clear hmk HZ
  have hrbw := HB1.out.size
  generalize hrbe : w1.heap.size = rb at *
  have HRBE := Lib.hid hrbe; clear hrbe
  go_loopw [4, 5, 6, 7, 8] (fun p i _ _ _ wr => ∃ (k : Nat) (vp : Value) (Vs : List Value), k ≤ a.length ∧ i = .int .i64 k ∧ vp = p ∧ Hid (PL rb a.length (partsN a k).1 (partsL k a) Vs vp w wr)) (fun _ i _ _ _ _ => a.length - (intOf i).toNat)
  case atStart => exact ⟨0, _, [], by omega, rfl, rfl, P0⟩
  case round =>
    clear P0
    obtain ⟨k, vp, Vs, hk, rfl, rfl, HP⟩ := hrel
    by_cases hlt : k < a.length
    · obtain ⟨b1, o1, rfl, hb1w, _⟩ := HROW.out (by omega)
      have n0 : (0 : Int) ≤ (k : Int) := by omega
      have n1 : (k : Int) < (a.length : Int) := by omega
      have hlen := partsN_len a k
      have hfl := HP.out.flags.cellAt k (by omega)
      have hflag : wr.cell? ⟨rb, k, none⟩ = some (.bool ((partsN a k).1.getD k true)) := by
        rw [hfl]; unfold bcells; rw [List.getElem?_map, List.getElem?_eq_getElem (by rw [hlen]; exact hlt), getD_in _ _ (by rw [hlen]; exact hlt)]; rfl
      clear hfl
      have hrbl : rb < wr.heap.size := (HP.out.flags.lt rb rfl).2
      by_cases c : (partsN a k).1.getD k true = false
      · have hpl := partsL_yes c
        have hco := HCOF.out k c
        have HNX : Hid ((partsN a (k + 1)).1 = (connM a k (partsN a k).1).1 ∧ partsL (k + 1) a = partsL k a ++ [formL (connM a k (partsN a k).1).2]) := Lib.hid (by rw [← hco.2]; exact hpl)
        have HFOK := Lib.hid hco.1
        have hcl := (connM_len hlen c).2
        have HCI := Lib.hid (conn_start hlen c)
        have HFIN : Hid (connR a 0 ((partsN a k).1.set k true, [a.getD k zR]) = connM a k (partsN a k).1) := Lib.hid rfl
        rw [getD_in a zR hlt] at HCI HFIN
        rw [c] at hflag
        have hpk : (partsL k a).length ≤ k := by unfold partsL; rw [List.length_map]; exact partsN_le a k
        clear hpl hco
        obtain ⟨fin, hfin⟩ : ∃ fin, fin = connM a k (partsN a k).1 := ⟨_, rfl⟩
        rw [← hfin] at HNX HFOK hcl HFIN
        clear hfin
        obtain ⟨R, hR⟩ : ∃ R, R = (partsN a k).1 := ⟨_, rfl⟩
        rw [← hR] at HP hlen HCI HFIN
        clear hR c
        obtain ⟨LP, hLP⟩ : ∃ LP, LP = partsL k a := ⟨_, rfl⟩
        rw [← hLP] at HP HNX hpk
        clear hLP
        have HRw : Hid (RRow wr (some ⟨b1, o1, none⟩) a) := Lib.hid (HROW.out.below HP.out.bel)
        obtain ⟨hb1, hv⟩ := HRw.out.some (by omega)
        have hbr : b1 ≠ rb := by omega
        obtain ⟨x0, x1, x2, x3⟩ := hv k hlt
        obtain ⟨u0, hu⟩ : ∃ u0, u0 = a[k] := ⟨_, rfl⟩
        rw [← hu] at x0 x1 x2 x3 HCI HFIN
        have HSOK0 : Hid (∀ r ∈ [u0], ROk r) := Lib.hid (fun r hm => by rw [List.mem_singleton] at hm; rw [hm, hu]; exact HAOK.out _ (List.getElem_mem hlt))
        clear hu hv
        have hfz := HP.out.flags.frozenAt k
        obtain ⟨wo, rfl⟩ : ∃ wo : World, wo = wr := ⟨_, rfl⟩
        have xs : ∀ o, (wo.setCell ⟨rb, k, none⟩ (.bool true)).cell? ⟨b1, o, none⟩ = wo.cell? ⟨b1, o, none⟩ := fun o => by
          have := set_other wo ⟨rb, k, none⟩ (.bool true) b1 (by simp; omega)
          simp [World.cell?, this]
        have y0 := (xs _).trans x0; have y1 := (xs _).trans x1; have y2 := (xs _).trans x2; have y3 := (xs _).trans x3
        clear xs
        have K0 : Hid (CP rb a.length (R.set k true, [u0]) (.slice (some ⟨wo.heap.size, 0, none⟩) 1 1) wo ((wo.setCell ⟨rb, k, none⟩ (.bool true)).alloc (.cells #[.int .i64 u0.X0, .int .i64 u0.Y0, .int .i64 u0.X1, .int .i64 u0.Y1] 41))) := Lib.hid (by
          have hw2 := HP.out.flags.stored k (.bool true)
          have hsz : (wo.setCell ⟨rb, k, none⟩ (.bool true)).heap.size = wo.heap.size := by simp [World.setCell]
          have hg : wo.grownBy (wo.setCell ⟨rb, k, none⟩ (.bool true)) (some rb) := ⟨rfl, rfl, rfl, by rw [hsz]; exact Nat.le_refl _, fun m hm hne => set_other _ _ _ _ (fun e => hne (by rw [e]))⟩
          have hfl : (wo.setCell ⟨rb, k, none⟩ (.bool true)).ownsRow rb 4 1 (.slice (some ⟨rb, 0, none⟩) a.length a.length) a.length (bcells (R.set k true)) := by
            rw [show bcells (R.set k true) = (bcells R).set k (.bool true) by simp [bcells, List.map_set]]; exact hw2.1
          generalize (wo.setCell ⟨rb, k, none⟩ (.bool true)) = ws at *
          have hl := World.ownsRow_lit (base := ws.heap.size) ws #[.int .i64 u0.X0, .int .i64 u0.Y0, .int .i64 u0.X1, .int .i64 u0.Y1] 1 (Nat.le_refl _) (by unfold maxLen; omega) (e := 41) (size := 4) (by simp)
          have hz : (#[.int .i64 u0.X0, .int .i64 u0.Y0, .int .i64 u0.X1, .int .i64 u0.Y1] : Array Value).toList = rcells [u0] := by simp [rcells]
          rw [hz, hsz] at hl
          exact ⟨hl, own_go hfl ((Below.refl _ _).alloc (Nat.le_refl _) _), grown_below hg ((Below.refl _ _).alloc (Nat.le_refl _) _)⟩)
        go_wp2_with fail
        clear x0 x1 x2 x3 y0 y1 y2 y3 hfz hflag
        go_loopw [6, 7, 8] (fun p nx _ wq => ∃ (q : Nat) (s : CS) (vq : Value), vq = p ∧ nx = .int .i64 q ∧ q ≤ s.2.length ∧ 0 < s.2.length ∧ Hid (CInv a s) ∧ Hid (∀ r ∈ s.2, ROk r) ∧ Hid (connR a q s = fin) ∧ Hid (CP rb a.length s vq wo wq)) (fun _ nx _ _ => a.length - (intOf nx).toNat)
        case atStart => exact ⟨0, _, _, rfl, rfl, Nat.zero_le _, by simp, HCI, HSOK0, HFIN, K0⟩
        case round =>
          clear K0 HCI HFIN HSOK0
          obtain ⟨q, s, vq, rfl, rfl, hq, hpos, HCI, HSOK, HFIN, HC⟩ := hrel
          obtain ⟨g, cg, rfl, hgB, hgl⟩ := HC.out.part.form hpos
          by_cases hqs : q < s.2.length
          · have hsl : s.2.length ≤ a.length := Nat.le_trans (Nat.le_add_right _ _) HCI.out.2
            have HSTEP := Lib.hid ((connR_step hqs hsl).symm.trans HFIN.out)
            obtain ⟨u, hu⟩ : ∃ u, u = s.2.getD q zR := ⟨_, rfl⟩
            rw [← hu] at HSTEP
            have HU : Hid (s.2[q]? = some u) := Lib.hid (by rw [hu, getD_in _ _ hqs]; exact List.getElem?_eq_getElem hqs)
            clear hu HFIN
            have q0 : (0 : Int) ≤ (q : Int) := by omega
            have q1 : (q : Int) < (s.2.length : Int) := by omega
            go_wp2_with fail
            go_loopw [6, 8] (fun p ii wq => ∃ (j : Nat) (t : CS) (vq : Value), vq = p ∧ j ≤ a.length ∧ ii = .int .i64 j ∧ Hid (t = lookN a u j s) ∧ Hid (CP rb a.length t vq wo wq)) (fun _ ii _ => a.length - (intOf ii).toNat)
            case atStart => exact ⟨0, s, _, rfl, Nat.zero_le _, rfl, Lib.hid rfl, HC⟩
            case round =>
              clear HC hgB hgl
              obtain ⟨j, t, vq, rfl, hj, rfl, HT, HC⟩ := hrel
              have HTI : Hid (CInv a t) := Lib.hid (by rw [HT.out]; exact lookN_inv HCI.out j)
              obtain ⟨Pr, hPr⟩ := lookN_grow (a := a) (u := u) (s := s) j
              rw [← HT.out] at hPr
              have hpl : s.2.length ≤ t.2.length := by rw [hPr, List.length_append]; omega
              have hpos2 : 0 < t.2.length := by omega
              have HUT : Hid (t.2[q]? = some u) := Lib.hid (by rw [hPr, List.getElem?_append_left hqs]; exact HU.out)
              clear hPr
              have htl : t.2.length ≤ a.length := Nat.le_trans (Nat.le_add_right _ _) HTI.out.2
              obtain ⟨g, cg, rfl, hgB, hgl⟩ := HC.out.part.form hpos2
              by_cases hjt : j < a.length
              · have q3 : (q : Int) < (t.2.length : Int) := by omega
                obtain ⟨_, hv⟩ := HRw.out.some (by omega)
                obtain ⟨x0, x1, x2, x3⟩ := hv j hjt
                have wc : ∀ o, wr.cell? ⟨b1, o, none⟩ = wo.cell? ⟨b1, o, none⟩ := fun o => by
                  have := HC.out.grown.block b1 hb1 (fun e => by simp at e; exact hbr e)
                  simp [World.cell?, this]
                have x0 := (wc _).trans x0; have x1 := (wc _).trans x1; have x2 := (wc _).trans x2; have x3 := (wc _).trans x3
                have hwsz := HC.out.grown.size
                have hfl := HC.out.flags.cellAt j (by omega)
                have hlen2 : t.1.length = a.length := HTI.out.1
                have hflag : wr.cell? ⟨rb, j, none⟩ = some (.bool (t.1.getD j true)) := by
                  rw [hfl]; unfold bcells; rw [List.getElem?_map, List.getElem?_eq_getElem (by rw [hlen2]; exact hjt), getD_in _ _ (by rw [hlen2]; exact hjt)]; rfl
                have m0 : (0 : Int) ≤ (j : Int) := by omega
                have m1 : (j : Int) < (a.length : Int) := by omega
                have HVOK := Lib.hid (HAOK.out _ (List.getElem_mem hjt))
                obtain ⟨v, hv2⟩ : ∃ v, v = a.getD j zR := ⟨_, rfl⟩
                rw [← getD_in a zR hjt, ← hv2] at x0 x1 x2 x3 HVOK
                have HUOK : Hid (ROk u) := Lib.hid (HSOK.out u (List.mem_of_getElem? HU.out))
                have HLK : Hid (lookN a u (j + 1) s = if t.1.getD j true = false ∧ TouchR u v then (t.1.set j true, t.2 ++ [v]) else t) := Lib.hid (by
                  show lookI a u j (lookN a u j s) = _
                  rw [← HT.out, hv2]; rfl)
                obtain ⟨fl, hfl2⟩ : ∃ fl, fl = t.1.getD j true := ⟨_, rfl⟩
                rw [← hfl2] at hflag HLK
                have pc := fun k (hk : k < t.2.length * 4) => HC.out.part.cellAt k hk
                obtain ⟨e0, e1, e2, e3⟩ := rcells_at t.2 q (by omega)
                have htq : t.2[q]'(by omega) = u := by have := HUT.out; rw [List.getElem?_eq_getElem (by omega)] at this; exact Option.some.inj this
                rw [htq] at e0 e1 e2 e3
                have p0 := (pc _ (by omega)).trans e0; have p1 := (pc _ (by omega)).trans e1; have p2 := (pc _ (by omega)).trans e2; have p3 := (pc _ (by omega)).trans e3
                clear pc e0 e1 e2 e3 htq hv2 hfl hlen2 wc hv hfl2
                have hrbw2 : rb < wr.heap.size := by omega
                have hb1r : b1 < wr.heap.size := by omega
                cases fl with
                | true =>
                  have HNXT : Hid (t = lookN a u (j + 1) s) := Lib.hid (by rw [HLK.out, if_neg (fun h => by have := h.1; cases this)])
                  clear HLK p0 p1 p2 p3
                  go_wp2_with fail
                  go_quiet (fail)
                  go_wp2_with fail
                  go_roundw
                  case rel => exact ⟨j + 1, t, _, rfl, by omega, by go_num, HNXT, Lib.hid (HC.out.go (below_drewN (Below.refl _ _) _))⟩
                  case measure => simp [intOf]; omega
                | false =>
                  have E0 : Hid (Tz rb j g q b1 (o1 + j * 4) u v wr wr) := Lib.hid ⟨hflag, p0, p1, p2, p3, x0, x1, x2, x3, hrbw2, hgl, hb1r, Lib.hid (Below.refl _ _)⟩
                  have HTO := Lib.hid (fun w' => vtouch_any u v HUOK.out HVOK.out w')
                  clear p0 p1 p2 p3 hflag x0 x1 x2 x3
                  by_cases ht : TouchR u v
                  · have HNXT : Hid ((t.1.set j true, t.2 ++ [v]) = lookN a u (j + 1) s) := Lib.hid (by rw [HLK.out, if_pos ⟨rfl, ht⟩])
                    rw [decide_eq_true ht] at HTO
                    clear ht HLK
                    go_wp2_with fail
                    refine wp_region_held_drew (S := fun w' => w'.cell? ⟨rb, j, none⟩ = some (.bool false) ∧ w'.cell? ⟨g, q * 4, none⟩ = some (.int .i64 u.X0) ∧ w'.cell? ⟨g, q * 4 + 1, none⟩ = some (.int .i64 u.Y0) ∧ w'.cell? ⟨g, q * 4 + 2, none⟩ = some (.int .i64 u.X1) ∧ w'.cell? ⟨g, q * 4 + 3, none⟩ = some (.int .i64 u.Y1) ∧ w'.cell? ⟨b1, o1 + j * 4, none⟩ = some (.int .i64 v.X0) ∧ w'.cell? ⟨b1, o1 + j * 4 + 1, none⟩ = some (.int .i64 v.Y0) ∧ w'.cell? ⟨b1, o1 + j * 4 + 2, none⟩ = some (.int .i64 v.X1) ∧ w'.cell? ⟨b1, o1 + j * 4 + 3, none⟩ = some (.int .i64 v.Y1) ∧ rb < w'.heap.size ∧ g < w'.heap.size ∧ b1 < w'.heap.size ∧ Hid (Below wr.heap.size wr w')) (by kernel_rfl) ?_ (fun hHeld => ?_)
                    · exact Tz.drewN E0.out 1
                    refine wpAnyH_take (i := 0) (oi := { dst := some 45, op := Go.Op.move (Go.Operand.tmp 3), type := 69, pos := "ref.go:247", after := #[], guard := none }) (v := ?_) rfl (by kernel_rfl) (by kernel_rfl) (by kernel_rfl) (fun _ _ _ h => h) (Or.inl ⟨by rfl, ?_⟩) (by assumption) ?_
                    rotate_left
                    · (intro w hSw; (try dsimp only at hSw); go_simp); try with_reducible rfl
                    try simp only [Act.put, List.setIfInBounds_toArray, List.set_cons_zero, List.set_cons_succ]
                    refine wpAnyH_take (i := 1) (oi := { dst := some 46, op := Go.Op.move (Go.Operand.tmp 8), type := 3, pos := "ref.go:247", after := #[], guard := none }) (v := ?_) rfl (by kernel_rfl) (by kernel_rfl) (by kernel_rfl) (fun _ _ _ h => h) (Or.inl ⟨by rfl, ?_⟩) (by assumption) ?_
                    rotate_left
                    · (intro w hSw; (try dsimp only at hSw); go_simp); try with_reducible rfl
                    try simp only [Act.put, List.setIfInBounds_toArray, List.set_cons_zero, List.set_cons_succ]
                    refine wpAnyH_take (i := 2) (oi := { dst := some 47, op := Go.Op.indexAddr 69 (Go.Operand.tmp 45) (Go.Operand.tmp 46), type := 0, pos := "ref.go:247", after := #[{ on := 0, ground := Go.Ground.data }, { on := 1, ground := Go.Ground.data }], guard := none }) (v := ?_) rfl (by kernel_rfl) (by kernel_rfl) (by kernel_rfl) (fun _ _ _ h => h) (Or.inl ⟨by rfl, ?_⟩) (by assumption) ?_
                    rotate_left
                    · (intro w hSw; (try dsimp only at hSw); go_simp); try with_reducible rfl
                    try simp only [Act.put, List.setIfInBounds_toArray, List.set_cons_zero, List.set_cons_succ]
                    refine wpAnyH_take (i := 3) (oi := { dst := some 48, op := Go.Op.load 4 (Go.Operand.tmp 47), type := 4, pos := "ref.go:247", after := #[{ on := 2, ground := Go.Ground.data }], guard := none }) (v := ?_) rfl (by kernel_rfl) (by kernel_rfl) (by kernel_rfl) (fun _ _ _ h => h) (Or.inl ⟨by rfl, ?_⟩) (by assumption) ?_
                    rotate_left
                    · (intro w hSw; (try dsimp only at hSw); go_simp); try with_reducible rfl
                    try simp only [Act.put, List.setIfInBounds_toArray, List.set_cons_zero, List.set_cons_succ]
                    refine wpAnyH_take (i := 4) (oi := { dst := some 49, op := Go.Op.unOp Go.UnOp.not 4 (Go.Operand.tmp 48), type := 4, pos := "ref.go:247", after := #[{ on := 3, ground := Go.Ground.data }], guard := none }) (v := ?_) rfl (by kernel_rfl) (by kernel_rfl) (by kernel_rfl) (fun _ _ _ h => h) (Or.inl ⟨by rfl, ?_⟩) (by assumption) ?_
                    rotate_left
                    · (intro w hSw; (try dsimp only at hSw); go_simp); try with_reducible rfl
                    try simp only [Act.put, List.setIfInBounds_toArray, List.set_cons_zero, List.set_cons_succ]
                    refine wpAnyH_take (i := 5) (oi := { dst := some 50, op := Go.Op.move (Go.Operand.tmp 49), type := 4, pos := "ref.go:247", after := #[{ on := 4, ground := Go.Ground.data }], guard := none }) (v := ?_) rfl (by kernel_rfl) (by kernel_rfl) (by kernel_rfl) (fun _ _ _ h => h) (Or.inl ⟨by rfl, ?_⟩) (by assumption) ?_
                    rotate_left
                    · (intro w hSw; (try dsimp only at hSw); go_simp); try with_reducible rfl
                    try simp only [Act.put, List.setIfInBounds_toArray, List.set_cons_zero, List.set_cons_succ]
                    refine wpAnyH_take (i := 6) (oi := { dst := some 51, op := Go.Op.move (Go.Operand.tmp 6), type := 22, pos := "ref.go:247", after := #[{ on := 5, ground := Go.Ground.guard }], guard := some (5, true) }) (v := ?_) rfl (by kernel_rfl) (by kernel_rfl) (by kernel_rfl) (fun _ _ _ h => h) (Or.inl ⟨by rfl, ?_⟩) (by assumption) ?_
                    rotate_left
                    · (intro w hSw; (try dsimp only at hSw); go_simp); try with_reducible rfl
                    try simp only [Act.put, List.setIfInBounds_toArray, List.set_cons_zero, List.set_cons_succ]
                    refine wpAnyH_take (i := 7) (oi := { dst := some 52, op := Go.Op.move (Go.Operand.tmp 7), type := 3, pos := "ref.go:247", after := #[{ on := 5, ground := Go.Ground.guard }], guard := some (5, true) }) (v := ?_) rfl (by kernel_rfl) (by kernel_rfl) (by kernel_rfl) (fun _ _ _ h => h) (Or.inl ⟨by rfl, ?_⟩) (by assumption) ?_
                    rotate_left
                    · (intro w hSw; (try dsimp only at hSw); go_simp); try with_reducible rfl
                    try simp only [Act.put, List.setIfInBounds_toArray, List.set_cons_zero, List.set_cons_succ]
                    refine wpAnyH_take (i := 8) (oi := { dst := some 53, op := Go.Op.indexAddr 22 (Go.Operand.tmp 51) (Go.Operand.tmp 52), type := 0, pos := "ref.go:247", after := #[{ on := 6, ground := Go.Ground.data }, { on := 7, ground := Go.Ground.data }, { on := 5, ground := Go.Ground.guard }], guard := some (5, true) }) (v := ?_) rfl (by kernel_rfl) (by kernel_rfl) (by kernel_rfl) (fun _ _ _ h => h) (Or.inl ⟨by rfl, ?_⟩) (by assumption) ?_
                    rotate_left
                    · (intro w hSw; (try dsimp only at hSw); go_simp); try with_reducible rfl
                    try simp only [Act.put, List.setIfInBounds_toArray, List.set_cons_zero, List.set_cons_succ]
                    refine wpAnyH_take (i := 9) (oi := { dst := some 54, op := Go.Op.load 41 (Go.Operand.tmp 53), type := 41, pos := "ref.go:247", after := #[{ on := 8, ground := Go.Ground.data }, { on := 5, ground := Go.Ground.guard }], guard := some (5, true) }) (v := ?_) rfl (by kernel_rfl) (by kernel_rfl) (by kernel_rfl) (fun _ _ _ h => h) (Or.inl ⟨by rfl, ?_⟩) (by assumption) ?_
                    rotate_left
                    · (intro w hSw; (try dsimp only at hSw); go_simp); try with_reducible rfl
                    try simp only [Act.put, List.setIfInBounds_toArray, List.set_cons_zero, List.set_cons_succ]
                    refine wpAnyH_take (i := 10) (oi := { dst := some 55, op := Go.Op.move (Go.Operand.tmp 0), type := 22, pos := "ref.go:247", after := #[{ on := 5, ground := Go.Ground.guard }], guard := some (5, true) }) (v := ?_) rfl (by kernel_rfl) (by kernel_rfl) (by kernel_rfl) (fun _ _ _ h => h) (Or.inl ⟨by rfl, ?_⟩) (by assumption) ?_
                    rotate_left
                    · (intro w hSw; (try dsimp only at hSw); go_simp); try with_reducible rfl
                    try simp only [Act.put, List.setIfInBounds_toArray, List.set_cons_zero, List.set_cons_succ]
                    refine wpAnyH_take (i := 11) (oi := { dst := some 56, op := Go.Op.move (Go.Operand.tmp 8), type := 3, pos := "ref.go:247", after := #[{ on := 5, ground := Go.Ground.guard }], guard := some (5, true) }) (v := ?_) rfl (by kernel_rfl) (by kernel_rfl) (by kernel_rfl) (fun _ _ _ h => h) (Or.inl ⟨by rfl, ?_⟩) (by assumption) ?_
                    rotate_left
                    · (intro w hSw; (try dsimp only at hSw); go_simp); try with_reducible rfl
                    try simp only [Act.put, List.setIfInBounds_toArray, List.set_cons_zero, List.set_cons_succ]
                    refine wpAnyH_take (i := 12) (oi := { dst := some 57, op := Go.Op.indexAddr 22 (Go.Operand.tmp 55) (Go.Operand.tmp 56), type := 0, pos := "ref.go:247", after := #[{ on := 10, ground := Go.Ground.data }, { on := 11, ground := Go.Ground.data }, { on := 5, ground := Go.Ground.guard }], guard := some (5, true) }) (v := ?_) rfl (by kernel_rfl) (by kernel_rfl) (by kernel_rfl) (fun _ _ _ h => h) (Or.inl ⟨by rfl, ?_⟩) (by assumption) ?_
                    rotate_left
                    · (intro w hSw; (try dsimp only at hSw); go_simp); try with_reducible rfl
                    try simp only [Act.put, List.setIfInBounds_toArray, List.set_cons_zero, List.set_cons_succ]
                    refine wpAnyH_take (i := 13) (oi := { dst := some 58, op := Go.Op.load 41 (Go.Operand.tmp 57), type := 41, pos := "ref.go:247", after := #[{ on := 12, ground := Go.Ground.data }, { on := 5, ground := Go.Ground.guard }], guard := some (5, true) }) (v := ?_) rfl (by kernel_rfl) (by kernel_rfl) (by kernel_rfl) (fun _ _ _ h => h) (Or.inl ⟨by rfl, ?_⟩) (by assumption) ?_
                    rotate_left
                    · (intro w hSw; (try dsimp only at hSw); go_simp); try with_reducible rfl
                    try simp only [Act.put, List.setIfInBounds_toArray, List.set_cons_zero, List.set_cons_succ]
                    refine wpAnyH_ready (rs := [14]) (by kernel_rfl) (by simp) ?_
                    refine AllReadyH.cons (o := { dst := some 59, op := Go.Op.call { callee := Go.Callee.value (Go.Operand.func 86), args := #[Go.Operand.tmp 54, Go.Operand.tmp 58], argTypes := #[41, 41] }, type := 4, pos := "ref.go:247", after := #[{ on := 9, ground := Go.Ground.data }, { on := 13, ground := Go.Ground.data }, { on := 5, ground := Go.Ground.chain }, { on := 5, ground := Go.Ground.guard }], guard := some (5, true) }) rfl (fun K hK => ?_) AllReadyH.nil
                    go_simp
                    go_at_call 86
                    refine (HTO.out _).mono ?_
                    rintro e w' ⟨rfl, hb⟩
                    try go_wp2_with fail
                    refine hK.out _ _ (Tz.go ‹_› hb) (fun hHeld2 => ?_)
                    clear hK K hHeld hb
                    have hHeld := hHeld2; clear hHeld2
                    try simp only [Act.put, List.setIfInBounds_toArray, List.set_cons_zero, List.set_cons_succ]
                    refine wpAnyH_take (i := 15) (oi := { dst := some 60, op := Go.Op.pick (Go.Operand.tmp 50) (Go.Operand.tmp 59) (Go.Operand.const (Go.Value.bool false)), type := 4, pos := "ref.go:247", after := #[{ on := 5, ground := Go.Ground.data }, { on := 14, ground := Go.Ground.data }], guard := none }) (v := ?_) rfl (by kernel_rfl) (by kernel_rfl) (by kernel_rfl) (fun _ _ _ h => h) (Or.inl ⟨by rfl, ?_⟩) (by assumption) ?_
                    rotate_left
                    · (intro w hSw; (try dsimp only at hSw); go_simp); try with_reducible rfl
                    try simp only [Act.put, List.setIfInBounds_toArray, List.set_cons_zero, List.set_cons_succ]
                    refine wpAnyH_done (by kernel_rfl) ?_ _
                    have HBW := hHeld.2.2.2.2.2.2.2.2.2.2.2.2
                    have HC2 := Lib.hid (HC.out.go HBW.out)
                    have f0 := HC2.out.flags.frozenAt j
                    have hk0 := hHeld.1
                    have hz0' := hHeld.2.2.2.2.2.2.2.2.2.1
                    have ec0 := hHeld.2.2.2.2.2.1; have ec1 := hHeld.2.2.2.2.2.2.1; have ec2 := hHeld.2.2.2.2.2.2.2.1; have ec3 := hHeld.2.2.2.2.2.2.2.2.1
                    have ez := hHeld.2.2.2.2.2.2.2.2.2.2.2.1
                    have ec : ∀ o, (w'.setCell ⟨rb, j, none⟩ (.bool true)).cell? ⟨b1, o, none⟩ = w'.cell? ⟨b1, o, none⟩ := fun o => by
                      have := set_other w' ⟨rb, j, none⟩ (.bool true) b1 (by simp; omega)
                      simp [World.cell?, this]
                    have ed0 := (ec _).trans ec0; have ed1 := (ec _).trans ec1; have ed2 := (ec _).trans ec2; have ed3 := (ec _).trans ec3
                    have HS2 : Hid (CP rb a.length (t.1.set j true, t.2) (.slice (some ⟨g, 0, none⟩) t.2.length cg) wo (w'.setCell ⟨rb, j, none⟩ (.bool true))) := Lib.hid (by
                      have hw2 := HC2.out.flags.stored j (.bool true)
                      refine ⟨own_stays HC2.out.part (fun k hk => set_other _ _ _ _ (fun e => ?_)), ?_, grown_set HC2.out.grown⟩
                      · exact own_apart HC2.out.part HC2.out.flags (by decide) k hk (by rw [e]; rfl)
                      · rw [show bcells (t.1.set j true) = (bcells t.1).set j (.bool true) by simp [bcells, List.map_set]]; exact hw2.1)
                    have hsz2 : (w'.setCell ⟨rb, j, none⟩ (.bool true)).heap.size = w'.heap.size := by simp [World.setCell]
                    have hws : wo.heap.size ≤ w'.heap.size := hsz2 ▸ HS2.out.grown.size
                    have HNEW : Hid (∀ k x, [Value.int .i64 v.X0, .int .i64 v.Y0, .int .i64 v.X1, .int .i64 v.Y1][k]? = some x → ((w'.setCell ⟨rb, j, none⟩ (.bool true)).alloc (.cells #[.int .i64 v.X0, .int .i64 v.Y0, .int .i64 v.X1, .int .i64 v.Y1] 41)).cell? ((⟨w'.heap.size, 0, none⟩ : Addr).add k) = some x) := Lib.hid (new_rect _ v _ hsz2.symm)
                    have HO := Lib.hid HS2.out.part
                    clear ec ec0 ec1 ec2 ec3 HC2 HC hHeld
                    go_wp2_with (at_builtin; refine wpList_append_own _ rfl _ _ 22 rfl wo.heap.size 41 j0 (.agg #[.int .i64 0, .int .i64 0, .int .i64 0, .int .i64 0]) 4 32 Try.underlying22 hj9 hy0 hy1 hy2 rfl (by decide) _ _ _ rfl (HO.out.alloc _) ⟨w'.heap.size, 0, none⟩ 1 1 [.int .i64 v.X0, .int .i64 v.Y0, .int .i64 v.X1, .int .i64 v.Y1] rfl rfl ?c1 ?c2 ?c3 ?c4 ?c5 ?_)
                    case c2 => exact ⟨rfl, rfl, rfl, rfl⟩
                    case c3 => unfold maxLen; omega
                    case c4 => omega
                    case c5 => first | omega | (simp; omega)
                    intro v' w4 hown' hgr _
                    have HX : Hid (CP rb a.length (t.1.set j true, t.2 ++ [v]) v' wo w4) := Lib.hid (by
                      have hal2 := HS2.out.go ((Below.refl _ (w'.setCell ⟨rb, j, none⟩ (.bool true))).alloc (Nat.le_refl _) (.cells #[.int .i64 v.X0, .int .i64 v.Y0, .int .i64 v.X1, .int .i64 v.Y1] 41))
                      refine ⟨?_, own_kept hal2.part hal2.flags (by decide) hgr, grown_own hal2.grown hgr (fun k hk => (hal2.part.lt k hk).1)⟩
                      rw [show rcells (t.2 ++ [v]) = rcells t.2 ++ [.int .i64 v.X0, .int .i64 v.Y0, .int .i64 v.X1, .int .i64 v.Y1] by rw [rcells_append]; simp [rcells], List.length_append]
                      exact hown')
                    clear hown' hgr HO HS2 HNEW
                    go_wp2_with fail
                    go_roundw
                    case rel => exact ⟨j + 1, _, _, rfl, by omega, by go_num, HNXT, HX⟩
                    case measure => simp [intOf]; omega
                  · have HNXT : Hid (t = lookN a u (j + 1) s) := Lib.hid (by rw [HLK.out, if_neg (fun h => ht h.2)])
                    rw [decide_eq_false ht] at HTO
                    clear ht HLK
                    go_wp2_with fail
                    refine wp_region_held_drew (S := fun w' => w'.cell? ⟨rb, j, none⟩ = some (.bool false) ∧ w'.cell? ⟨g, q * 4, none⟩ = some (.int .i64 u.X0) ∧ w'.cell? ⟨g, q * 4 + 1, none⟩ = some (.int .i64 u.Y0) ∧ w'.cell? ⟨g, q * 4 + 2, none⟩ = some (.int .i64 u.X1) ∧ w'.cell? ⟨g, q * 4 + 3, none⟩ = some (.int .i64 u.Y1) ∧ w'.cell? ⟨b1, o1 + j * 4, none⟩ = some (.int .i64 v.X0) ∧ w'.cell? ⟨b1, o1 + j * 4 + 1, none⟩ = some (.int .i64 v.Y0) ∧ w'.cell? ⟨b1, o1 + j * 4 + 2, none⟩ = some (.int .i64 v.X1) ∧ w'.cell? ⟨b1, o1 + j * 4 + 3, none⟩ = some (.int .i64 v.Y1) ∧ rb < w'.heap.size ∧ g < w'.heap.size ∧ b1 < w'.heap.size ∧ Hid (Below wr.heap.size wr w')) (by kernel_rfl) ?_ (fun hHeld => ?_)
                    · exact Tz.drewN E0.out 1
                    refine wpAnyH_take (i := 0) (oi := { dst := some 45, op := Go.Op.move (Go.Operand.tmp 3), type := 69, pos := "ref.go:247", after := #[], guard := none }) (v := ?_) rfl (by kernel_rfl) (by kernel_rfl) (by kernel_rfl) (fun _ _ _ h => h) (Or.inl ⟨by rfl, ?_⟩) (by assumption) ?_
                    rotate_left
                    · (intro w hSw; (try dsimp only at hSw); go_simp); try with_reducible rfl
                    try simp only [Act.put, List.setIfInBounds_toArray, List.set_cons_zero, List.set_cons_succ]
                    refine wpAnyH_take (i := 1) (oi := { dst := some 46, op := Go.Op.move (Go.Operand.tmp 8), type := 3, pos := "ref.go:247", after := #[], guard := none }) (v := ?_) rfl (by kernel_rfl) (by kernel_rfl) (by kernel_rfl) (fun _ _ _ h => h) (Or.inl ⟨by rfl, ?_⟩) (by assumption) ?_
                    rotate_left
                    · (intro w hSw; (try dsimp only at hSw); go_simp); try with_reducible rfl
                    try simp only [Act.put, List.setIfInBounds_toArray, List.set_cons_zero, List.set_cons_succ]
                    refine wpAnyH_take (i := 2) (oi := { dst := some 47, op := Go.Op.indexAddr 69 (Go.Operand.tmp 45) (Go.Operand.tmp 46), type := 0, pos := "ref.go:247", after := #[{ on := 0, ground := Go.Ground.data }, { on := 1, ground := Go.Ground.data }], guard := none }) (v := ?_) rfl (by kernel_rfl) (by kernel_rfl) (by kernel_rfl) (fun _ _ _ h => h) (Or.inl ⟨by rfl, ?_⟩) (by assumption) ?_
                    rotate_left
                    · (intro w hSw; (try dsimp only at hSw); go_simp); try with_reducible rfl
                    try simp only [Act.put, List.setIfInBounds_toArray, List.set_cons_zero, List.set_cons_succ]
                    refine wpAnyH_take (i := 3) (oi := { dst := some 48, op := Go.Op.load 4 (Go.Operand.tmp 47), type := 4, pos := "ref.go:247", after := #[{ on := 2, ground := Go.Ground.data }], guard := none }) (v := ?_) rfl (by kernel_rfl) (by kernel_rfl) (by kernel_rfl) (fun _ _ _ h => h) (Or.inl ⟨by rfl, ?_⟩) (by assumption) ?_
                    rotate_left
                    · (intro w hSw; (try dsimp only at hSw); go_simp); try with_reducible rfl
                    try simp only [Act.put, List.setIfInBounds_toArray, List.set_cons_zero, List.set_cons_succ]
                    refine wpAnyH_take (i := 4) (oi := { dst := some 49, op := Go.Op.unOp Go.UnOp.not 4 (Go.Operand.tmp 48), type := 4, pos := "ref.go:247", after := #[{ on := 3, ground := Go.Ground.data }], guard := none }) (v := ?_) rfl (by kernel_rfl) (by kernel_rfl) (by kernel_rfl) (fun _ _ _ h => h) (Or.inl ⟨by rfl, ?_⟩) (by assumption) ?_
                    rotate_left
                    · (intro w hSw; (try dsimp only at hSw); go_simp); try with_reducible rfl
                    try simp only [Act.put, List.setIfInBounds_toArray, List.set_cons_zero, List.set_cons_succ]
                    refine wpAnyH_take (i := 5) (oi := { dst := some 50, op := Go.Op.move (Go.Operand.tmp 49), type := 4, pos := "ref.go:247", after := #[{ on := 4, ground := Go.Ground.data }], guard := none }) (v := ?_) rfl (by kernel_rfl) (by kernel_rfl) (by kernel_rfl) (fun _ _ _ h => h) (Or.inl ⟨by rfl, ?_⟩) (by assumption) ?_
                    rotate_left
                    · (intro w hSw; (try dsimp only at hSw); go_simp); try with_reducible rfl
                    try simp only [Act.put, List.setIfInBounds_toArray, List.set_cons_zero, List.set_cons_succ]
                    refine wpAnyH_take (i := 6) (oi := { dst := some 51, op := Go.Op.move (Go.Operand.tmp 6), type := 22, pos := "ref.go:247", after := #[{ on := 5, ground := Go.Ground.guard }], guard := some (5, true) }) (v := ?_) rfl (by kernel_rfl) (by kernel_rfl) (by kernel_rfl) (fun _ _ _ h => h) (Or.inl ⟨by rfl, ?_⟩) (by assumption) ?_
                    rotate_left
                    · (intro w hSw; (try dsimp only at hSw); go_simp); try with_reducible rfl
                    try simp only [Act.put, List.setIfInBounds_toArray, List.set_cons_zero, List.set_cons_succ]
                    refine wpAnyH_take (i := 7) (oi := { dst := some 52, op := Go.Op.move (Go.Operand.tmp 7), type := 3, pos := "ref.go:247", after := #[{ on := 5, ground := Go.Ground.guard }], guard := some (5, true) }) (v := ?_) rfl (by kernel_rfl) (by kernel_rfl) (by kernel_rfl) (fun _ _ _ h => h) (Or.inl ⟨by rfl, ?_⟩) (by assumption) ?_
                    rotate_left
                    · (intro w hSw; (try dsimp only at hSw); go_simp); try with_reducible rfl
                    try simp only [Act.put, List.setIfInBounds_toArray, List.set_cons_zero, List.set_cons_succ]
                    refine wpAnyH_take (i := 8) (oi := { dst := some 53, op := Go.Op.indexAddr 22 (Go.Operand.tmp 51) (Go.Operand.tmp 52), type := 0, pos := "ref.go:247", after := #[{ on := 6, ground := Go.Ground.data }, { on := 7, ground := Go.Ground.data }, { on := 5, ground := Go.Ground.guard }], guard := some (5, true) }) (v := ?_) rfl (by kernel_rfl) (by kernel_rfl) (by kernel_rfl) (fun _ _ _ h => h) (Or.inl ⟨by rfl, ?_⟩) (by assumption) ?_
                    rotate_left
                    · (intro w hSw; (try dsimp only at hSw); go_simp); try with_reducible rfl
                    try simp only [Act.put, List.setIfInBounds_toArray, List.set_cons_zero, List.set_cons_succ]
                    refine wpAnyH_take (i := 9) (oi := { dst := some 54, op := Go.Op.load 41 (Go.Operand.tmp 53), type := 41, pos := "ref.go:247", after := #[{ on := 8, ground := Go.Ground.data }, { on := 5, ground := Go.Ground.guard }], guard := some (5, true) }) (v := ?_) rfl (by kernel_rfl) (by kernel_rfl) (by kernel_rfl) (fun _ _ _ h => h) (Or.inl ⟨by rfl, ?_⟩) (by assumption) ?_
                    rotate_left
                    · (intro w hSw; (try dsimp only at hSw); go_simp); try with_reducible rfl
                    try simp only [Act.put, List.setIfInBounds_toArray, List.set_cons_zero, List.set_cons_succ]
                    refine wpAnyH_take (i := 10) (oi := { dst := some 55, op := Go.Op.move (Go.Operand.tmp 0), type := 22, pos := "ref.go:247", after := #[{ on := 5, ground := Go.Ground.guard }], guard := some (5, true) }) (v := ?_) rfl (by kernel_rfl) (by kernel_rfl) (by kernel_rfl) (fun _ _ _ h => h) (Or.inl ⟨by rfl, ?_⟩) (by assumption) ?_
                    rotate_left
                    · (intro w hSw; (try dsimp only at hSw); go_simp); try with_reducible rfl
                    try simp only [Act.put, List.setIfInBounds_toArray, List.set_cons_zero, List.set_cons_succ]
                    refine wpAnyH_take (i := 11) (oi := { dst := some 56, op := Go.Op.move (Go.Operand.tmp 8), type := 3, pos := "ref.go:247", after := #[{ on := 5, ground := Go.Ground.guard }], guard := some (5, true) }) (v := ?_) rfl (by kernel_rfl) (by kernel_rfl) (by kernel_rfl) (fun _ _ _ h => h) (Or.inl ⟨by rfl, ?_⟩) (by assumption) ?_
                    rotate_left
                    · (intro w hSw; (try dsimp only at hSw); go_simp); try with_reducible rfl
                    try simp only [Act.put, List.setIfInBounds_toArray, List.set_cons_zero, List.set_cons_succ]
                    refine wpAnyH_take (i := 12) (oi := { dst := some 57, op := Go.Op.indexAddr 22 (Go.Operand.tmp 55) (Go.Operand.tmp 56), type := 0, pos := "ref.go:247", after := #[{ on := 10, ground := Go.Ground.data }, { on := 11, ground := Go.Ground.data }, { on := 5, ground := Go.Ground.guard }], guard := some (5, true) }) (v := ?_) rfl (by kernel_rfl) (by kernel_rfl) (by kernel_rfl) (fun _ _ _ h => h) (Or.inl ⟨by rfl, ?_⟩) (by assumption) ?_
                    rotate_left
                    · (intro w hSw; (try dsimp only at hSw); go_simp); try with_reducible rfl
                    try simp only [Act.put, List.setIfInBounds_toArray, List.set_cons_zero, List.set_cons_succ]
                    refine wpAnyH_take (i := 13) (oi := { dst := some 58, op := Go.Op.load 41 (Go.Operand.tmp 57), type := 41, pos := "ref.go:247", after := #[{ on := 12, ground := Go.Ground.data }, { on := 5, ground := Go.Ground.guard }], guard := some (5, true) }) (v := ?_) rfl (by kernel_rfl) (by kernel_rfl) (by kernel_rfl) (fun _ _ _ h => h) (Or.inl ⟨by rfl, ?_⟩) (by assumption) ?_
                    rotate_left
                    · (intro w hSw; (try dsimp only at hSw); go_simp); try with_reducible rfl
                    try simp only [Act.put, List.setIfInBounds_toArray, List.set_cons_zero, List.set_cons_succ]
                    refine wpAnyH_ready (rs := [14]) (by kernel_rfl) (by simp) ?_
                    refine AllReadyH.cons (o := { dst := some 59, op := Go.Op.call { callee := Go.Callee.value (Go.Operand.func 86), args := #[Go.Operand.tmp 54, Go.Operand.tmp 58], argTypes := #[41, 41] }, type := 4, pos := "ref.go:247", after := #[{ on := 9, ground := Go.Ground.data }, { on := 13, ground := Go.Ground.data }, { on := 5, ground := Go.Ground.chain }, { on := 5, ground := Go.Ground.guard }], guard := some (5, true) }) rfl (fun K hK => ?_) AllReadyH.nil
                    go_simp
                    go_at_call 86
                    refine (HTO.out _).mono ?_
                    rintro e w' ⟨rfl, hb⟩
                    try go_wp2_with fail
                    refine hK.out _ _ (Tz.go ‹_› hb) (fun hHeld2 => ?_)
                    clear hK K hHeld hb
                    have hHeld := hHeld2; clear hHeld2
                    try simp only [Act.put, List.setIfInBounds_toArray, List.set_cons_zero, List.set_cons_succ]
                    refine wpAnyH_take (i := 15) (oi := { dst := some 60, op := Go.Op.pick (Go.Operand.tmp 50) (Go.Operand.tmp 59) (Go.Operand.const (Go.Value.bool false)), type := 4, pos := "ref.go:247", after := #[{ on := 5, ground := Go.Ground.data }, { on := 14, ground := Go.Ground.data }], guard := none }) (v := ?_) rfl (by kernel_rfl) (by kernel_rfl) (by kernel_rfl) (fun _ _ _ h => h) (Or.inl ⟨by rfl, ?_⟩) (by assumption) ?_
                    rotate_left
                    · (intro w hSw; (try dsimp only at hSw); go_simp); try with_reducible rfl
                    try simp only [Act.put, List.setIfInBounds_toArray, List.set_cons_zero, List.set_cons_succ]
                    refine wpAnyH_done (by kernel_rfl) ?_ _
                    go_wp2_with fail
                    go_roundw
                    case rel => exact ⟨j + 1, t, _, rfl, by omega, by go_num, HNXT, Lib.hid (HC.out.go hHeld.2.2.2.2.2.2.2.2.2.2.2.2.out)⟩
                    case measure => simp [intOf]; omega
              · obtain rfl : j = a.length := by omega
                go_wp2_with fail
                go_roundw
                case rel => exact ⟨q + 1, t, _, rfl, by go_num, by omega, hpos2, HTI, Lib.hid (by rw [HT.out]; exact lookN_ok HAOK.out HSOK.out _), Lib.hid (by rw [HT.out]; exact HSTEP.out), HC⟩
                case measure => simp [intOf]; omega
          · obtain rfl : s = fin := (connR_end hqs).symm.trans HFIN.out
            have q1 : ¬ (q : Int) < (s.2.length : Int) := by omega
            have HP2 := Lib.hid (HP.out.grow HC.out.grown HC.out.flags hrbw)
            have hpr : RRow wr (some ⟨g, 0, none⟩) s.2 := by
              obtain ⟨A2, c2, e2, hrow, _⟩ := own_rects HC.out.part
              have eA : A2 = some ⟨g, 0, none⟩ := by injection e2 with e2 _ _; exact e2.symm
              rw [← eA]; exact hrow
            have HOF := Lib.hid (vform_one (some ⟨g, 0, none⟩) cg s.2 wr hpr (by omega) HFOK.out)
            clear hpr HC HP HCI HFIN
            obtain ⟨M, hM⟩ : ∃ M, M = formL s.2 := ⟨_, rfl⟩
            rw [← hM] at HOF HNX
            clear hM
            go_wp2_with fail
            refine HOF.out.mono ?_
            rintro e w3 ⟨v3, rfl, how3, hb3⟩
            have HP3 := Lib.hid (HP2.out.go hb3)
            obtain ⟨A3, c3, rfl, _⟩ := own_rects how3
            have HN3 := Lib.hid (World.ownsRow.mono how3 (by exact HP2.out.bel.size) : w3.ownsRow w.heap.size 41 4 (.slice A3 M.length c3) M.length (rcells M))
            clear hb3 HOF how3 HP2
            obtain ⟨n3, hn3⟩ : ∃ n3, n3 = M.length := ⟨_, rfl⟩
            rw [← hn3] at HN3
            rw [← hn3]
            have HM := Lib.hid hn3; clear hn3
            have hsz3 := HP3.out.bel.size
            have HO3 := Lib.hid HP3.out.own
            go_wp2_with (at_builtin; refine wpList_append_own _ rfl _ _ 29 rfl w.heap.size 22 i0 (.slice none 0 0) 1 24 Try.underlying29 hi9 hz0 hz1 hz2 rfl (by decide) _ _ _ rfl (HO3.out.alloc _) ⟨w3.heap.size, 0, none⟩ 1 1 [.slice A3 n3 c3] rfl rfl ?d1 ?d2 ?d3 ?d4 ?d5 ?_)
            case d1 =>
              intro t u ht
              match t, ht with
              | 0, ht => simp at ht; subst ht; simp [Addr.add]
            case d2 => intro u hu; simp at hu; subst hu; rfl
            case d3 => unfold maxLen; omega
            case d4 => omega
            case d5 => simp; omega
            intro v' w4 hown' hgr _
            have HP4 : Hid (PL rb a.length (partsN a (k + 1)).1 (partsL (k + 1) a) (Vs ++ [.slice A3 n3 c3]) v' w w4) := Lib.hid (by
              rw [HNX.out.1, HNX.out.2]
              have hz := HP3.out.go ((Below.refl w3.heap.size w3).alloc (Nat.le_refl _) (.cells #[.slice A3 n3 c3] 22))
              refine hz.add hown' hgr ?_
              rw [← HM.out]
              exact own_go HN3.out ((Below.refl w3.heap.size w3).alloc (Nat.le_refl _) (.cells #[.slice A3 n3 c3] 22)))
            clear hown' hgr HO3 HN3 HP3
            go_wp2_with fail
            go_roundw
            case rel => exact ⟨k + 1, _, _, by omega, by go_num, rfl, HP4⟩
            case measure => simp [intOf]; omega
      · have hpl := partsL_no c
        have HP4 : Hid (PL rb a.length (partsN a (k + 1)).1 (partsL (k + 1) a) Vs vp w wr) := Lib.hid (by rw [hpl.1, hpl.2]; exact HP.out)
        rw [Bool.not_eq_false] at c
        rw [c] at hflag
        clear c hpl HP hlen
        go_wp2_with fail
        go_roundw
        case rel => exact ⟨k + 1, _, _, by omega, by go_num, rfl, HP4⟩
        case measure => simp [intOf]; omega
    · obtain rfl : k = a.length := by omega
      go_wp2_with fail
      go_ret
      exact ⟨_, _, rfl, HP.out.own, HP.out.rows, HP.out.bel⟩
end Go.Proofs.Ytcnojedijimheaa
