/-
  Contracts of the program's Arm, Truncate and Read.
  The contract of the program's Truncate.
-/
import Derived.Test.YtbpkcgkcamkggaaGreatDoorT922
import Derived.Laws.BytesArg
import Derived.Laws.IdiomStrings
import Derived.BigRegion
set_option linter.unusedVariables false
set_option maxRecDepth 100000
namespace Go.Proofs.YtbpkcgkcamkggaaGreatDoor
open Go.RowKit

set_option maxRecDepth 100000 in
set_option maxHeartbeats 2000000 in
theorem pArm_any (r : Nat) (L : Lay) (d : Dk) (n : Int) (v : Value) (keep : List Int) (w : World) (h : PAt r L d w) (h64 : In64 n) (hk : IRow w v keep) (hkl : keep.length ≤ 1099511627776) :
    Calls Tryz.prog 18 #[.pointer (some ⟨r, 0, none⟩), .int .i64 n, v] w (Left r L (d.arm n keep) (.tuple #[]) w) := by
  have HC := Lib.hid (cloneI_any keep v w hk hkl)
  have HE : Hid (∀ w1 v', w1.ownsRow w.heap.size 3 1 v' keep.length (keep.map (Value.int .i64)) → Below w.heap.size w w1 → w1.frozen? ⟨r, 4, none⟩ = false ∧ w1.frozen? ⟨r, 5, none⟩ = false ∧ w1.cell? ⟨r, 4, none⟩ = some (.int .i64 (d.armed : Int)) ∧ w1.cell? ⟨r, 5, none⟩ = some L.kv ∧
      Left r L (d.arm n keep) (.tuple #[]) w (.returned (.tuple #[])) ((w1.setCell ⟨r, 4, none⟩ (.int .i64 ((n.toNat : Nat) : Int))).setCell ⟨r, 5, none⟩ v')) := Lib.hid fun w1 v' hown hb => by
    have h1 := h.below hb
    obtain ⟨_, _, _, _, c4, c5, _, cz⟩ := h1.raw.cells
    obtain ⟨h2, s2⟩ := h1.put (d' := { d with armed := n.toNat }) 4 (.int .i64 ((n.toNat : Nat) : Int)) rfl rfl rfl rfl rfl
    refine ⟨cz 4, cz 5, c4, c5, rfl, { L with kv := v' }, ?_, (by
      have Q := ((PStep.of_below hb).trans s2).trans (PStep.store (L' := L) 5 v' rfl rfl rfl (.inl rfl) (fun _ h => .inl h))
      exact ⟨Q.fr, fun b hb => Q.own b hb, fun b hb => .inr (hown.lt b hb).1⟩), rfl⟩
    have hrow : (w1.setCell ⟨r, 4, none⟩ (.int .i64 ((n.toNat : Nat) : Int))).ownsRow 0 3 1 v' keep.length (keep.map (Value.int .i64)) :=
      ownKeep (ownBase hown (Nat.zero_le _)) fun b hb => Below.heap_setCell _ _ _ _ (fun e => other_kind hown h1.raw.cell (by decide) (by rw [hb, e]))
    refine ⟨h2.raw.store (L' := { L with kv := v' }) (d' := d.arm n keep) 5 v' rfl rfl rfl rfl rfl rfl h2.raw.set hrow h2.raw.ne, ?_⟩
    exact ownKeep h2.queue fun b hb => Below.heap_setCell _ _ _ _ (fun e => other_kind h2.queue h2.raw.cell (by decide) (by rw [hb, e]))
  obtain ⟨A, cap, hv, _⟩ := hk
  subst hv
  clear h
  obtain ⟨a0, a1⟩ := h64
  have e : ((n.toNat : Nat) : Int) = max n 0 := by omega
  rw [e] at HE
  clear e
  go_enter Tryz.func18, Tryz.ntmps18
  go_wp2_with fail
  refine HC.out.mono ?_
  rintro e w1 ⟨v', rfl, hown, hb⟩
  obtain ⟨A2, cap2, rfl, _⟩ := own_parts hown
  obtain ⟨z4, z5, k4, k5, hl⟩ := HE.out w1 _ hown hb
  have HL := Lib.hid hl
  clear hown hb hl HC HE
  go_wp2
  refine bodyPost_end (results_none rfl _ _ _) rfl ?_
  exact HL.out

/-- the string of bytes that a read gives. -/
def ReadPost (r : Nat) (L : Lay) (d : Dk) (res : List UInt8 × Int) (w : World) (e : Ending) (w' : World) : Prop :=
  ∃ s : ByteArray, e = .returned (.tuple #[.string s, .int .i64 res.2]) ∧ s.data.toList = res.1 ∧ Below w.heap.size w w'

theorem own_slice {w : World} {v : Value} {l : List UInt8} (h : w.ownsRow 0 5 1 v l.length (bcs l)) : ∃ A cap, v = .slice A l.length cap ∧ (A = none → l = [] ∧ cap = 0) ∧ l.length ≤ cap ∧ cap ≤ 9223372036854775807 ∧
    ∀ a, A = some a → ∃ g, a = ⟨g, 0, none⟩ ∧ g < w.heap.size ∧ ∀ j (hj : j < l.length), w.cell? ⟨g, j, none⟩ = some (.int .u8 (l[j].toNat : Int)) := by
  rcases h.2 with ⟨rfl, h0⟩ | ⟨g, cap, cur, rfl, _, hg, hnc, hcm, hcs, ht⟩
  · have hl : l = [] := List.eq_nil_of_length_eq_zero h0
    subst hl
    exact ⟨none, 0, rfl, fun _ => ⟨rfl, rfl⟩, Nat.le_refl _, by omega, fun a h => by cases h⟩
  · refine ⟨_, cap, rfl, (fun h => by cases h), hnc, by unfold maxLen at hcm; omega, fun a ha => ?_⟩
    injection ha with ha
    refine ⟨g, ha.symm, brow_lt hg, fun j hj => ?_⟩
    have := h.cells (g := g) rfl j (.int .u8 (l[j].toNat : Int)) (bcs_at l j hj)
    rw [Addr.add_lit, Nat.zero_add] at this
    exact this

set_option maxRecDepth 100000 in
set_option maxHeartbeats 4000000 in
theorem pRead_any (r : Nat) (L : Lay) (d : Dk) (f a n : Int) (w : World) (h : PAt r L d w) (hb : Fits d) (h64 : In64 f) (ha64 : In64 a) (hn64 : In64 n) :
    Calls Tryz.prog 26 #[.pointer (some ⟨r, 0, none⟩), .int .i64 f, .int .i64 a, .int .i64 n] w (ReadPost r L d (d.read f a n) w) := by
  obtain ⟨c0, _, _, _, _, _, c6, _⟩ := h.raw.cells
  have hbr := Below.refl w.heap.size w
  have HBR := Lib.hid hbr
  clear hbr
  cases hd : d.down with
  | true =>
    have HX : Hid (d.read f a n = ([], 8)) := Lib.hid (by unfold Dk.read; rw [if_pos hd])
    rw [hd] at c6
    clear h hd hb
    go_enter Tryz.func26, Tryz.ntmps26
    go_wp2
    go_ret2
    rw [HX.out]
    exact ⟨⟨#[]⟩, rfl, rfl, HBR.out⟩
  | false =>
    rw [hd] at c6
    by_cases hf : Dk.fileOk f
    · have hl := h.raw.files.map.look_ok hf
      by_cases hneg : a < 0 ∨ n < 0
      · have HX : Hid (d.read f a n = ([], 1)) := Lib.hid (by unfold Dk.read; rw [if_neg (by rw [hd]; decide), if_neg (Decidable.not_not.mpr hf), if_pos hneg])
        clear h hd hb hf
        by_cases ha : a < 0
        · clear hneg
          go_enter Tryz.func26, Tryz.ntmps26
          go_wp2
          go_ret2
          rw [HX.out]
          exact ⟨⟨#[]⟩, rfl, rfl, HBR.out⟩
        · have hn : n < 0 := by omega
          have ha0 : 0 ≤ a := by omega
          clear hneg ha
          go_enter Tryz.func26, Tryz.ntmps26
          go_wp2
          go_ret2
          rw [HX.out]
          exact ⟨⟨#[]⟩, rfl, rfl, HBR.out⟩
      · have ha0 : 0 ≤ a := by omega
        have hn0 : 0 ≤ n := by omega
        have hX : d.read f a n = (((d.now f).drop a.toNat).take n.toNat, 0) := by unfold Dk.read; rw [if_neg (by rw [hd]; decide), if_neg (Decidable.not_not.mpr hf), if_neg hneg]
        have hbig := hb.ok.big f
        obtain ⟨k0, _, _⟩ := h.raw.files.cells hf
        obtain ⟨A, cap, hv, hnil, hlc, hcm, hA⟩ := own_slice (h.raw.files.row f false hf)
        rw [hv] at k0
        have e : side d.now d.last f false = d.now f := rfl
        rw [e] at k0 hnil hlc hA
        rw [hX]
        clear h hd hb hf hneg hX hv e
        generalize d.now f = l at *
        obtain ⟨fr, hfr⟩ : ∃ fr : Nat, fr = min a.toNat l.length := ⟨_, rfl⟩
        obtain ⟨to, hto⟩ : ∃ to : Nat, to = min n.toNat (l.length - fr) := ⟨_, rfl⟩
        have hpart : (l.drop a.toNat).take n.toNat = (l.drop fr).take to := by
          by_cases c : a.toNat ≤ l.length
          · have e : fr = a.toNat := by omega
            rw [e]
            by_cases c2 : n.toNat ≤ l.length - a.toNat
            · rw [show to = n.toNat by omega]
            · rw [List.take_of_length_le (by rw [List.length_drop]; omega), List.take_of_length_le (by rw [List.length_drop]; omega)]
          · rw [List.drop_of_length_le (by omega), show fr = l.length by omega, List.drop_of_length_le (Nat.le_refl _)]
            simp
        rw [hpart]
        have e1 : min a (l.length : Int) = (fr : Int) := by omega
        have hfl : fr ≤ l.length := by omega
        have htl : to ≤ l.length - fr := by omega
        have hpl : ((l.drop fr).take to).length = to := by rw [List.length_take, List.length_drop]; omega
        have e2 : min n ((l.length : Int) - (fr : Int)) = (to : Int) := by omega
        have e3 : ((l.length - fr : Nat) : Int) = (l.length : Int) - (fr : Int) := by omega
        have hf0 : (0 : Int) ≤ (fr : Int) := by omega
        have hf1 : (fr : Int) ≤ (l.length : Int) := by omega
        have ht0 : (0 : Int) ≤ (to : Int) := by omega
        cases A with
        | none =>
          obtain ⟨hl0, rfl⟩ := hnil rfl
          subst hl0
          have hpe : (([] : List UInt8).drop fr).take to = [] := by simp
          rw [hpe]
          have hcv : ∀ m c, (convert 62 9 (.slice none 0 c)).run Tryz.prog (w.drewN m) = .ok (.string ByteArray.empty) (w.drewN m) := fun m c => run_convert_bytes_nil (P := Tryz.prog) (w.drewN m) 62 5 Tryz.underlying62 Tryz.underlying5 0 c 9 Tryz.underlying9
          have HCV := Lib.hid hcv
          have q1 : min a 0 = 0 := by omega
          have q2 : min n 0 = 0 := by omega
          clear hcv hnil hA hfr hto hpart hpl e1 e2 e3 hpe hfl htl hf0 hf1 ht0 hlc hbig
          go_enter Tryz.func26, Tryz.ntmps26
          go_wp2_with fail
          go_quiet (fail)
          rename_i nq
          have hcv := HCV.out nq
          go_wp2_with fail
          go_ret2
          exact ⟨ByteArray.empty, rfl, rfl, HBR.out.trans ⟨rfl, rfl, rfl, Nat.le_refl _, fun _ _ => rfl⟩⟩
        | some ad =>
          obtain ⟨g, rfl, hg, hcell⟩ := hA ad rfl
          by_cases hcf : cap = fr
          · have hto0 : to = 0 := by omega
            have hcv : ∀ m c, (convert 62 9 (.slice (some ⟨g, 0, none⟩) 0 c)).run Tryz.prog (w.drewN m) = .ok (.string ⟨#[]⟩) (w.drewN m) := fun m c => by
              exact run_convert_bytes_back (P := Tryz.prog) (w.drewN m) 62 9 5 ⟨g, 0, none⟩ c [] Tryz.underlying62 Tryz.underlying5 Tryz.underlying9 (fun q hq => absurd hq (by simp))
            have HCV := Lib.hid hcv
            have hpe : (l.drop fr).take to = [] := by rw [hto0]; rfl
            rw [hpe]
            have q2 : min n 0 = 0 := by omega
            subst hcf
            clear hcv hcell hnil hA hfr hto hpart hpl e2 e3 hpe hto0
            go_enter Tryz.func26, Tryz.ntmps26
            go_wp2_with fail
            go_quiet (fail)
            rename_i nq
            have hcv := HCV.out nq
            go_wp2_with fail
            go_ret2
            exact ⟨⟨#[]⟩, rfl, rfl, HBR.out.trans ⟨rfl, rfl, rfl, Nat.le_refl _, fun _ _ => rfl⟩⟩
          · have hcv : ∀ m c, (convert 62 9 (.slice (some ⟨g, fr, none⟩) to c)).run Tryz.prog (w.drewN m) = .ok (.string ⟨((l.drop fr).take to).toArray⟩) (w.drewN m) := fun m c => by
              have := run_convert_bytes_back (P := Tryz.prog) (w.drewN m) 62 9 5 ⟨g, fr, none⟩ c ((l.drop fr).take to) Tryz.underlying62 Tryz.underlying5 Tryz.underlying9 (fun q hq => by
                rw [hpl] at hq
                rw [Addr.add_lit]
                have := hcell (fr + q) (by omega)
                simpa using this)
              rw [hpl] at this
              exact this
            have HCV := Lib.hid hcv
            have hcl : fr < cap := by omega
            have E2 := Lib.hid e2
            have E3 := Lib.hid e3
            clear hcv hcell hnil hA hfr hto hpart hpl e2 e3
            generalize (l.drop fr).take to = part at *
            go_enter Tryz.func26, Tryz.ntmps26
            go_wp2_with fail
            go_quiet (fail)
            rename_i nq
            have hcv := HCV.out nq
            have e2 := E2.out
            have e3 := E3.out
            go_wp2_with fail
            go_ret2
            exact ⟨⟨part.toArray⟩, rfl, rfl, HBR.out.trans ⟨rfl, rfl, rfl, Nat.le_refl _, fun _ _ => rfl⟩⟩
    · have hl := h.raw.files.map.look_no h64 hf
      have HX : Hid (d.read f a n = ([], 1)) := Lib.hid (by unfold Dk.read; rw [if_neg (by rw [hd]; decide), if_pos hf])
      clear h hd hb hf
      go_enter Tryz.func26, Tryz.ntmps26
      go_wp2
      go_ret2
      rw [HX.out]
      exact ⟨⟨#[]⟩, rfl, rfl, HBR.out⟩

end Go.Proofs.YtbpkcgkcamkggaaGreatDoor
namespace Go.Proofs.YtbpkcgkcamkggaaGreatDoor
open Go.RowKit

theorem upd_upd {α : Type} (F : Int → α) (f : Int) (x y : α) : upd (upd F f x) f y = upd F f y := by
  funext g
  by_cases c : g = f
  · subst c; rw [upd_same, upd_same]
  · rw [upd_other c, upd_other c, upd_other c]

theorem own_cut {w : World} {A : Option Addr} {cap n : Nat} {l : List UInt8} (h : w.ownsRow 0 5 1 (.slice A l.length cap) l.length (bcs l)) (hn : n ≤ l.length) : w.ownsRow 0 5 1 (.slice A n cap) (l.take n).length (bcs (l.take n)) := by
  have e : (l.take n).length = n := by rw [List.length_take]; omega
  rw [e]
  refine ⟨by rw [bcs_length, e, Nat.mul_one], ?_⟩
  rcases h.2 with ⟨hv, h0⟩ | ⟨g, cap', cur, hv, h1, h2, h3, h4, h5, h6⟩
  · left
    injection hv with e1 e2 e3
    subst e1
    subst e3
    have h7 : n = 0 := by omega
    rw [h7]
    exact ⟨rfl, rfl⟩
  · right
    injection hv with e1 e2 e3
    subst e1
    subst e3
    refine ⟨g, cap, cur, rfl, h1, h2, by omega, h4, h5, ?_⟩
    rw [Nat.mul_one] at h6 ⊢
    rw [show bcs (l.take n) = (bcs l).take n by simp [bcs, List.map_take], ← h6, List.take_take, Nat.min_eq_left (by omega)]

/-- both rows of a file are cut. -/
theorem cut_both {r : Nat} {L : Lay} {d : Dk} {f : Int} {n : Nat} {w : World} (h : PAt r L (d.settle f (d.now f)) w) (hf : Dk.fileOk f) (hn : n ≤ (d.now f).length) :
    ∃ A0 c0 A1 c1, L.rv f false = .slice A0 (d.now f).length c0 ∧ L.rv f true = .slice A1 (d.now f).length c1 ∧ (d.now f).length ≤ c0 ∧ (d.now f).length ≤ c1 ∧
      Left r L (d.settle f ((d.now f).take n)) (.tuple #[]) w (.returned (.tuple #[])) ((w.setCell ⟨L.fb f, 0, none⟩ (.slice A0 n c0)).setCell ⟨L.fb f, 1, none⟩ (.slice A1 n c1)) := by
  have e0 : side (d.settle f (d.now f)).now (d.settle f (d.now f)).last f false = d.now f := by
    show upd d.now f (d.now f) f = _
    rw [upd_same]
  have e1 : side (d.settle f (d.now f)).now (d.settle f (d.now f)).last f true = d.now f := by
    show upd d.last f (d.now f) f = _
    rw [upd_same]
  have r0 := h.raw.files.row f false hf
  have r1 := h.raw.files.row f true hf
  rw [e0] at r0
  rw [e1] at r1
  obtain ⟨A0, c0, v0, _, l0, _, _⟩ := own_slice r0
  obtain ⟨A1, c1, v1, _, l1, _, _⟩ := own_slice r1
  have o0 : w.ownsRow 0 5 1 (.slice A0 n c0) ((d.now f).take n).length (bcs ((d.now f).take n)) := own_cut (by rw [← v0]; exact r0) hn
  have o1 : w.ownsRow 0 5 1 (.slice A1 n c1) ((d.now f).take n).length (bcs ((d.now f).take n)) := own_cut (by rw [← v1]; exact r1) hn
  have hrefl : ∀ (w : World) (row : Option Nat), w.grownBy w row := fun w row => ⟨rfl, rfl, rfl, Nat.le_refl _, fun _ _ _ => rfl⟩
  obtain ⟨g1, s1, q1⟩ := h.raw.wrote h.queue hf false o0 (hrefl _ _) (.inl (by rw [v0]; cases A0 <;> rfl)) 0 rfl
  have o1' : (w.setCell ⟨L.fb f, 0, none⟩ (.slice A0 n c0)).ownsRow 0 5 1 (.slice A1 n c1) ((d.now f).take n).length (bcs ((d.now f).take n)) :=
    ownKeep o1 fun b hb => Below.heap_setCell _ _ _ _ (fun e => other_kind o1 (h.raw.files.file f hf) (by decide) (by rw [hb, e]))
  have hv1 : (L.setRow f false (.slice A0 n c0)).rv f true = L.rv f true := by simp [Lay.setRow]
  obtain ⟨g2, s2, q2⟩ := g1.wrote q1 hf true o1' (hrefl _ _) (.inl (by rw [hv1, v1]; cases A1 <;> rfl)) 1 rfl
  refine ⟨A0, c0, A1, c1, v0, v1, l0, l1, rfl, (L.setRow f false (.slice A0 n c0)).setRow f true (.slice A1 n c1), ⟨?_, q2⟩, s1.trans s2, rfl⟩
  have hX : d.settle f ((d.now f).take n) = { { d.settle f (d.now f) with now := setSide (d.settle f (d.now f)).now f (!false) ((d.now f).take n), last := setSide (d.settle f (d.now f)).last f false ((d.now f).take n) } with
      now := setSide (setSide (d.settle f (d.now f)).now f (!false) ((d.now f).take n)) f (!true) ((d.now f).take n), last := setSide (setSide (d.settle f (d.now f)).last f false ((d.now f).take n)) f true ((d.now f).take n) } := by
    simp [Dk.settle, setSide, upd_upd]
  rw [hX]
  exact g2

set_option maxRecDepth 100000 in
set_option maxHeartbeats 4000000 in
theorem pTruncate_any (r : Nat) (L : Lay) (d : Dk) (f n : Int) (w : World) (h : PAt r L d w) (hb : Fits d) (h64 : In64 f) (hn64 : In64 n) :
    Calls Tryz.prog 35 #[.pointer (some ⟨r, 0, none⟩), .int .i64 f, .int .i64 n] w (Left r L (ptrunc d f n).1 (.int .i64 (ptrunc d f n).2) w) := by
  obtain ⟨_, _, _, _, _, _, c6, _⟩ := h.raw.cells
  cases hd : d.down with
  | true =>
    have HX : Hid (Left r L (ptrunc d f n).1 (.int .i64 (ptrunc d f n).2) w (.returned (.int .i64 8)) w) := Lib.hid (by unfold ptrunc; rw [if_pos hd]; exact left_same h)
    rw [hd] at c6
    clear h hd hb
    go_enter Tryz.func35, Tryz.ntmps35
    go_wp2
    go_ret
    exact HX.out
  | false =>
    rw [hd] at c6
    have HDUE := Lib.hid (pDue_any r L d w h hb.armed)
    have HD := Lib.hid hd
    have HF := Lib.hid hb
    clear h hd hb
    by_cases ha : d.armed = 1
    · have HX : Hid (ptrunc d f n = (pcrash (due d) (due d).keep, 8)) := Lib.hid (by unfold ptrunc; rw [if_neg (by rw [HD.out]; decide), if_pos ha])
      have hdc : decide (d.armed = 1) = true := decide_eq_true ha
      clear ha
      go_enter Tryz.func35, Tryz.ntmps35
      go_wp2_with fail
      refine HDUE.out.mono ?_
      rintro e w1 ⟨rfl, p1, s1⟩
      rw [hdc]
      obtain ⟨_, _, _, _, _, k5, _, _⟩ := p1.raw.cells
      have hcr := crash_any r L (due d) L.kv (due d).keep w1 p1 (due_ok HF.out.ok) p1.krd HF.out.keep (Nat.le_trans HF.out.q (by omega))
      have HCR := Lib.hid hcr
      have S1 := Lib.hid s1
      clear p1 s1 hcr hdc HDUE
      go_wp2_with fail
      refine HCR.out.mono ?_
      rintro e w2 ⟨rfl, L2, p2, s2, e2⟩
      have HE : Hid (Left r L (ptrunc d f n).1 (.int .i64 (ptrunc d f n).2) w (.returned (.int .i64 8)) w2) := Lib.hid ⟨by rw [HX.out], L2, by rw [HX.out]; exact p2, S1.out.trans s2, e2⟩
      clear p2 s2 e2 HCR HX
      go_wp2
      go_ret
      exact HE.out
    · have HX : Hid (ptrunc d f n = (due d).trunc0 f n) := Lib.hid (by unfold ptrunc; rw [if_neg (by rw [HD.out]; decide), if_neg ha])
      have hdc : decide (d.armed = 1) = false := decide_eq_false ha
      clear ha
      go_enter Tryz.func35, Tryz.ntmps35
      go_wp2_with fail
      refine HDUE.out.mono ?_
      rintro e w1 ⟨rfl, p1, s1⟩
      rw [hdc]
      obtain ⟨k0, _, _, _, _, _, _, _⟩ := p1.raw.cells
      have P1 : Hid (PAt r L (due d) w1) := Lib.hid p1
      have S1 := Lib.hid s1
      by_cases hf : Dk.fileOk f
      · have hl := p1.raw.files.map.look_ok hf
        obtain ⟨x0, _, _⟩ := p1.raw.files.cells hf
        obtain ⟨A, cap, hv, _, _, _, _⟩ := own_slice (P1.out.raw.files.row f false hf)
        rw [hv] at x0
        have e : side (due d).now (due d).last f false = d.now f := rfl
        rw [e] at x0
        have hbig : (d.now f).length ≤ 16777216 := HF.out.ok.big f
        by_cases hbad : n < 0 ∨ ((d.now f).length : Int) < n
        · have HE : Hid (Left r L (ptrunc d f n).1 (.int .i64 (ptrunc d f n).2) w (.returned (.int .i64 1)) w1) := Lib.hid (by
            rw [HX.out]
            unfold Dk.trunc0
            rw [if_neg (Decidable.not_not.mpr hf), if_pos (show n < 0 ∨ (((due d).now f).length : Int) < n from hbad)]
            exact ⟨rfl, L, P1.out, S1.out, rfl⟩)
          clear p1 s1 hdc HDUE hf hv e HX P1 S1 HF HD
          generalize (d.now f).length = len at *
          by_cases hn : n < 0
          · clear hbad
            go_wp2
            go_ret
            exact HE.out
          · have hn2 : (len : Int) < n := by omega
            have hn0 : 0 ≤ n := by omega
            clear hbad hn
            go_wp2
            go_ret
            exact HE.out
        · obtain ⟨m, rfl⟩ : ∃ m : Nat, n = (m : Int) := ⟨n.toNat, by omega⟩
          have hml : m ≤ (d.now f).length := by omega
          have hset := settle_any r L (due d) f w1 p1 (due_ok HF.out.ok) hf (Nat.le_trans HF.out.q (by omega))
          have HSET := Lib.hid hset
          have HX2 : Hid (ptrunc d f (m : Int) = ((due d).settle f (((due d).now f).take m), 0)) := Lib.hid (by
            rw [HX.out]
            unfold Dk.trunc0
            rw [if_neg (Decidable.not_not.mpr hf), if_neg (show ¬ ((m : Int) < 0 ∨ (((due d).now f).length : Int) < (m : Int)) from hbad)]
            rfl)
          have HFO := Lib.hid hf
          have hm0 : (0 : Int) ≤ (m : Int) := by omega
          have hm1 : (m : Int) ≤ ((d.now f).length : Int) := by omega
          clear p1 s1 hdc HDUE hf hset HX hbad hv e
          go_wp2_with fail
          refine HSET.out.mono ?_
          rintro e w2 ⟨rfl, L2, p2, s2, e2⟩
          obtain ⟨A0, q0, A1, q1, v0, v1, l0, l1, hcut⟩ := cut_both p2 HFO.out (show m ≤ ((due d).now f).length from hml)
          obtain ⟨y0, y1, yz⟩ := p2.raw.files.cells HFO.out
          rw [v0, e2] at y0
          rw [v1, e2] at y1
          rw [e2] at yz hcut
          have yz0 := yz 0
          have yz1 := yz 1
          have HE : Hid (Left r L (ptrunc d f (m : Int)).1 (.int .i64 (ptrunc d f (m : Int)).2) w (.returned (.int .i64 0)) ((w2.setCell ⟨L.fb f, 0, none⟩ (.slice A0 m q0)).setCell ⟨L.fb f, 1, none⟩ (.slice A1 m q1)).drew) := Lib.hid (by
            obtain ⟨_, L3, p3, s3, e3⟩ := hcut
            rw [HX2.out]
            exact ⟨rfl, L3, p3.kept fun b _ => rfl, (S1.out.trans s2).trans (s3.trans (PStep.of_below ⟨rfl, rfl, rfl, Nat.le_refl _, fun _ _ => rfl⟩)), e3.trans e2⟩)
          have y0' : w2.cell? ⟨L.fb f, 0, none⟩ = some (.slice A0 (d.now f).length q0) := y0
          have y1' : w2.cell? ⟨L.fb f, 1, none⟩ = some (.slice A1 (d.now f).length q1) := y1
          have g0 : (m : Int) ≤ (q0 : Int) := by have : (d.now f).length ≤ q0 := l0; omega
          have g1 : (m : Int) ≤ (q1 : Int) := by have : (d.now f).length ≤ q1 := l1; omega
          clear p2 s2 hcut HSET HX2 yz v0 v1 l0 l1 y0 y1 P1 S1 HF HD e2
          generalize (d.now f).length = len at *
          go_wp2
          go_region
          go_wp2
          go_ret
          exact HE.out
      · have hl := p1.raw.files.map.look_no h64 hf
        have HE : Hid (Left r L (ptrunc d f n).1 (.int .i64 (ptrunc d f n).2) w (.returned (.int .i64 1)) w1) := Lib.hid (by
          rw [HX.out]
          unfold Dk.trunc0
          rw [if_pos hf]
          exact ⟨rfl, L, P1.out, S1.out, rfl⟩)
        clear p1 s1 hdc HDUE hf HX
        go_wp2
        go_ret
        exact HE.out

end Go.Proofs.YtbpkcgkcamkggaaGreatDoor
