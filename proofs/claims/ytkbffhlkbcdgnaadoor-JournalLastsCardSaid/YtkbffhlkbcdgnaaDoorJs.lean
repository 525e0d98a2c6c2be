/-
  The walk of JournalStays.
-/
import Derived.Test.YtkbffhlkbcdgnaaDoorJq
set_option linter.unusedVariables false
set_option maxRecDepth 100000
namespace Go.Proofs.YtkbffhlkbcdgnaaDoor
open Go.RowKit W

/-- an append to a slice beside the machine leaves it. -/
theorem JH.beside {W : World} {r : Nat} {L : Lay} {d : Dk} {n : Nat} {rj : Nat} {v : Value} {f : Int} {R : List (List UInt8)} {bad : Bool} {w w' : World} (h : JH W r L d n rj v f R bad w) {vw : Value} {B m : Nat} {xs : List Value}
    (ho : w.ownsRow B 9 1 vw m xs) (hB : W.heap.size ≤ B) (ha : ∀ b, vw.ownBlock = some b → ¬ MO r L rj v b) (hg : w.grownBy w' vw.ownBlock) : JH W r L d n rj v f R bad w' := by
  refine ⟨h.disk.kept fun b c z T hT hl => hg.block b hl fun e => ?_, h.jrn.kept fun b hb => hg.block b (h.jrn.lt hb) fun e => ha b e.symm (.inr hb), h.bel.trans ⟨hg.os, hg.tape, hg.output, hg.size, fun i hi => hg.block i (Nat.lt_of_lt_of_le hi h.bel.size) fun e => ?_⟩, h.own⟩
  · rcases hT with hT | ⟨hc, rfl⟩
    · exact ha b e.symm (.inl hT)
    · obtain ⟨c2, h2⟩ := ownKind ho e.symm
      rw [hc] at h2
      simp only [Option.some.injEq, Obj.cells.injEq] at h2
      exact absurd h2.2.1 (by decide)
  · have := (ho.lt i e.symm).1
    omega

/-- while records are appended, and to the list that is wanted as well. -/
structure SWant (W : World) (r q rj : Nat) (vw : Value) (R : List (List UInt8)) (bad : Bool) (w : World) : Prop where
  ex : ∃ (L : Lay) (d : Dk) (n : Nat) (v : Value), n ≤ 30000 + 300 * q ∧ Dk.Up d ∧ JH W r L d n rj v 0 R bad w ∧ (bad = false → d.now 0 = forms R) ∧ (∀ b, vw.ownBlock = some b → ¬ MO r L rj v b)
  own : w.ownsRow W.heap.size 9 1 vw R.length (R.map vStr)
  r200 : ∀ t ∈ R, t.length ≤ 200
  len : R.length ≤ 30 + q

/-- at last: synced, nothing lost any more. -/
def SLast (W : World) (r : Nat) (j : Value) (A : Option Addr) (R : List (List UInt8)) (w : World) : Prop :=
  ∃ (rj : Nat) (L : Lay) (d : Dk) (v : Value), j = .pointer (some ⟨rj, 0, none⟩) ∧ Dk.Up d ∧ d.lost = 0 ∧ Dk.Kept d 0 (forms R) ∧ JH W r L d 40000 rj v 0 R false w ∧ TRow (MO r L rj v) w A R

theorem lost_crash (d : Dk) (keep : List Int) : (d.crash keep).start.lost = d.lost := by
  unfold Dk.crash
  split <;> rfl

set_option maxHeartbeats 8000000 in
theorem jstays_walk (A : Option Addr) (cap : Nat) (l : List JOp) (S : Option Addr) (cS : Nat) (s : List ByteArray) (B : Option Addr) (cB : Nat) (one : List Int) (C : Option Addr) (cC : Nat) (two : List Int) (w : World)
    (hl : l.length ≤ 9223372036854775807) (hok : ∀ x ∈ l, JOpOk x) (hA : Ops w A l) (hSc : s.length ≤ cS) (hS : SRow w S s) (hSz : ∀ x ∈ s, x.size ≤ 9223372036854775807) (hSl : s.length ≤ 9223372036854775807)
    (hB : JRow w B one) (hBl : one.length ≤ 9223372036854775807) (hC : JRow w C two) (hCl : two.length ≤ 9223372036854775807) (ht : Tab w) :
    Calls Tryd.prog 4 #[.slice A l.length cap, .slice S s.length cS, .slice B one.length cB, .slice C two.length cC] w fun e w' => e = .returned (.bool true) ∧ Below w.heap.size w w' := by
  obtain ⟨i0, hinf, hz0, hz1, hz2⟩ := info_parts infoStr
  have HT := Lib.hid ht; clear ht
  have HO := Lib.hid hok; clear hok
  have HA := Lib.hid hA; clear hA
  have HS := Lib.hid hS; clear hS
  have HSZ := Lib.hid hSz; clear hSz
  have HB := Lib.hid hB; clear hB
  have HC := Lib.hid hC; clear hC
  go_enter Tryd.func4, Tryd.ntmps4
  go_wp2_with fail
  refine (jsmall_any w HT.out).mono ?_
  rintro e w1 ⟨rfl, b1⟩
  go_wp2_with fail
  refine (jfew_any A cap l w1 hl HO.out (HA.out.below b1)).mono ?_
  rintro e w2 ⟨b, rfl, hb, b12⟩
  have B2 := Lib.hid (b1.trans (b12.mono b1.size))
  clear b1 b12
  cases b with
  | false =>
    clear hb
    go_wp2
    go_ret
    exact ⟨rfl, B2.out⟩
  | true =>
  have HF := Lib.hid (hb rfl)
  clear hb
  go_wp2_with fail
  refine (jtexts_any S cS s w2 hSl HSZ.out (HS.out.below B2.out)).mono ?_
  rintro e w3 ⟨b, rfl, hb, b23⟩
  have B3 := Lib.hid (B2.out.trans (b23.mono B2.out.size))
  clear b23 B2
  cases b with
  | false =>
    clear hb
    go_wp2
    go_ret
    exact ⟨rfl, B3.out⟩
  | true =>
  have HX := Lib.hid (hb rfl)
  clear hb
  by_cases h1 : 50 < one.length
  · have h1' : (50 : Int) < (one.length : Int) := by omega
    go_wp2
    go_ret
    exact ⟨rfl, B3.out⟩
  have h1' : (one.length : Int) ≤ 50 := by omega
  by_cases h2 : 50 < two.length
  · have h2' : (50 : Int) < (two.length : Int) := by omega
    go_wp2
    go_ret
    exact ⟨rfl, B3.out⟩
  have h2' : (two.length : Int) ≤ 50 := by omega
  have hl25 := HF.out.1
  have hs8 := HX.out.1
  go_wp2_with fail
  refine (hNew B3.out).mono ?_
  rintro e w4 ⟨r, L, rfl, hh, _, _⟩
  have H4 : Hid (SDisk w r 1 w4) := Lib.hid ⟨L, _, 0, [], by omega, Dk.up_new, ⟨List.nil_prefix, Torn.whole List.nil_prefix, Torn.whole List.nil_prefix⟩, (fun t h => nomatch h), by simp, hh⟩
  clear hh B3
  go_wp2_with fail
  refine (sdisk_open H4.out (by omega)).mono ?_
  rintro e w5 ⟨j, c, rfl, h5⟩
  have H5 := Lib.hid h5
  clear h5 H4
  go_wp2
  go_loopw [11, 13] (fun j i wr => ∃ k : Nat, k ≤ l.length ∧ i = .int .i64 k ∧ Hid (SInv w r (k + 2) j wr)) (fun _ i _ => l.length - (intOf i).toNat)
  case atStart => exact ⟨0, Nat.zero_le _, rfl, H5⟩
  case round =>
    clear H5
    obtain ⟨k, hk, rfl, hI⟩ := hrel
    by_cases hlt : k < l.length
    · obtain ⟨b, off, rfl, hb, hv⟩ := HA.out (by omega)
      obtain ⟨AK, ck, _, hr, hc⟩ := hv k hlt
      have hbel := hI.out.bel
      have v0 := (hbel.cell (p := ⟨b, off + k * 4 + 0, none⟩) hb).trans (hc 0 _ rfl)
      have v1 := (hbel.cell (p := ⟨b, off + k * 4 + 1, none⟩) hb).trans (hc 1 _ rfl)
      have v2 := (hbel.cell (p := ⟨b, off + k * 4 + 2, none⟩) hb).trans (hc 2 _ rfl)
      have v3 := (hbel.cell (p := ⟨b, off + k * 4 + 3, none⟩) hb).trans (hc 3 _ rfl)
      rw [Nat.add_zero] at v0
      have hxo := HO.out l[k] (List.getElem_mem hlt)
      have ⟨f1, f2⟩ := HF.out.2 l[k] (List.getElem_mem hlt)
      have HXO := Lib.hid hxo
      have HR := Lib.hid hr
      clear hc hv hxo hr hbel
      generalize l[k] = x at *
      have hi0 : (0 : Int) ≤ (k : Int) := by omega
      have hi1 : (k : Int) < (l.length : Int) := by omega
      have hnx := Lib.hid hI.out.next
      obtain ⟨K, sx, nx, kx⟩ := x
      simp only at v0 v1 v2 v3 f1 f2
      have hkk : k + 2 ≤ 100 := by omega
      by_cases h0 : K = 0
      · subst h0
        rcases hI.out.shape with hj | ⟨rj, hj⟩
        · subst hj
          go_wp2
          go_roundw
          case rel => exact ⟨k + 1, by omega, by go_num, hnx⟩
          case measure => simp [intOf]; omega
        · subst hj
          go_wp2_with fail
          refine (sinv_append hI.out hkk HT.out sx f1).mono ?_
          rintro e w6 ⟨c, rfl, h6⟩
          have H6 := Lib.hid h6
          clear h6 hnx hI
          go_wp2
          go_roundw
          case rel => exact ⟨k + 1, by omega, by go_num, H6⟩
          case measure => simp [intOf]; omega
      by_cases h01 : K = 1
      · subst h01
        rcases hI.out.shape with hj | ⟨rj, hj⟩
        · subst hj
          go_wp2
          go_roundw
          case rel => exact ⟨k + 1, by omega, by go_num, hnx⟩
          case measure => simp [intOf]; omega
        · subst hj
          go_wp2_with fail
          refine (sinv_sync hI.out hkk).mono ?_
          rintro e w6 ⟨c, rfl, h6⟩
          have H6 := Lib.hid h6
          clear h6 hnx hI
          go_wp2
          go_roundw
          case rel => exact ⟨k + 1, by omega, by go_num, H6⟩
          case measure => simp [intOf]; omega
      by_cases h02 : K = 2
      · subst h02
        go_wp2_with fail
        refine (sinv_lose hI.out hkk HXO.out.n).mono ?_
        rintro e w6 ⟨rfl, h6⟩
        have H6 := Lib.hid h6
        clear h6 hnx hI
        go_wp2
        go_roundw
        case rel => exact ⟨k + 1, by omega, by go_num, H6⟩
        case measure => simp [intOf]; omega
      by_cases h04 : K = 4
      · subst h04
        go_wp2_with fail
        refine (sdisk_crash hI.out.disk hkk ck HR.out (by omega)).mono ?_
        rintro e w6 ⟨rfl, h6⟩
        have H6 := Lib.hid h6
        clear h6 hnx hI
        go_wp2_with fail
        refine (sdown_start H6.out).mono ?_
        rintro e w7 ⟨rfl, h7⟩
        have H7 := Lib.hid h7
        clear h7 H6
        go_wp2_with fail
        refine (sdisk_open H7.out hkk).mono ?_
        rintro e w8 ⟨j, c, rfl, h8⟩
        have H8 := Lib.hid h8
        clear h8 H7
        go_wp2
        go_roundw
        case rel => exact ⟨k + 1, by omega, by go_num, H8⟩
        case measure => simp [intOf]; omega
      · have g0 : (K == 0) = false := by simpa using h0
        have g1 : (K == 1) = false := by simpa using h01
        have g2 : (K == 2) = false := by simpa using h02
        have g4 : (K == 4) = false := by simpa using h04
        go_wp2
        go_roundw
        case rel => exact ⟨k + 1, by omega, by go_num, hnx⟩
        case measure => simp [intOf]; omega
    · obtain rfl : k = l.length := by omega
      rcases hI.out.shape with hj | ⟨rj, hj⟩
      · subst hj
        have HB9 := Lib.hid hI.out.bel
        clear hI
        go_wp2
        go_ret
        exact ⟨rfl, HB9.out⟩
      subst hj
      obtain ⟨L1, d1, n1, all, p1, p2, p3, p4, p5, p6⟩ := hI.out
      rcases p6 with ⟨p6, _⟩ | ⟨rj', v1, R1, bad, p6, h6, q1, q2, q3⟩
      · cases p6
      cases p6
      have H6 := Lib.hid h6
      have hq3 : bad = false → d1.now 0 = forms R1 := fun e => by obtain ⟨rfl, h⟩ := q3 e; exact h
      have hc1 := Lib.hid (And.intro p2 (And.intro q1 hq3))
      clear h6 p2 p3 p4 q1 q3 hq3 hI
      go_wp2_with fail
      refine (jall_any H6.out.jrn (by omega)).mono ?_
      rintro e w7 ⟨vw, rfl, how, hb7⟩
      have hW0 : SWant w r 0 rj vw R1 bad w7 := by
        refine ⟨⟨L1, d1, n1, v1, by omega, hc1.out.1, H6.out.below hb7, hc1.out.2.2, fun b hb hm => ?_⟩, ownBase how H6.out.bel.size, hc1.out.2.1, by omega⟩
        have := (how.lt b hb).1
        have := H6.out.lt hm
        omega
      have HW0 := Lib.hid hW0
      clear hW0 how hb7 H6 hc1 q2 p1 p5
      go_wp2
      go_loopw [14, 15] (fun vw i wr => ∃ (q : Nat) (R : List (List UInt8)) (bad : Bool), q ≤ s.length ∧ i = .int .i64 q ∧ Hid (SWant w r q rj vw R bad wr)) (fun _ i _ => s.length - (intOf i).toNat)
      case atStart => exact ⟨0, R1, bad, Nat.zero_le _, rfl, HW0⟩
      case round =>
        clear HW0
        obtain ⟨q, R, bad, hq, rfl, hI⟩ := hrel
        by_cases hlt : q < s.length
        · obtain ⟨b, off, rfl, hb, hv⟩ := HS.out (by omega)
          obtain ⟨⟨L2, d2, n2, v2, e1, e2, e3, e4, e5⟩, ho, hr2, hrl⟩ := hI.out
          have vq := (e3.bel.cell (p := ⟨b, off + q, none⟩) hb).trans (hv q hlt)
          have hz := HX.out.2 s[q] (List.getElem_mem hlt)
          have VQ : Hid (∀ w', Below w.heap.size w w' → w'.cell? ⟨b, off + q, none⟩ = some (.string s[q])) := Lib.hid fun w' hb' => (hb'.cell (p := ⟨b, off + q, none⟩) hb).trans (hv q hlt)
          clear hv
          generalize s[q] = t at *
          have hi0 : (0 : Int) ≤ (q : Int) := by omega
          have hi1 : (q : Int) < (s.length : Int) := by omega
          have hR := forms_200 hr2
          have htl := list_size t
          have hcase : ∃ (d3 : Dk) (c : Int) (R3 : List (List UInt8)) (b3 : Bool), jappend d2 0 R bad t.data.toList = (d3, c, R3, b3) ∧ Dk.Up d3 ∧ (b3 = false → d3.now 0 = forms R3) ∧ ((c = 7 ∧ R3 = R) ∨ (c = 0 ∧ R3 = R ++ [t.data.toList])) := by
            cases bad with
            | true => exact ⟨d2, 7, R, true, rfl, e2, (fun e => by cases e), .inl ⟨rfl, rfl⟩⟩
            | false =>
              have hfl := form_len t.data.toList (by omega)
              obtain ⟨d3, a1, a2⟩ := jappend_up e2 ok0 (e4 rfl) (s := t.data.toList) (by omega) (by omega)
              exact ⟨d3, 0, _, false, a1, a2.up, fun _ => by rw [a2.now, upd_same], .inr ⟨rfl, rfl⟩⟩
          obtain ⟨d3, c, R3, b3, c1, c2, c3, c4⟩ := hcase
          have E3 := Lib.hid e3
          have E5 := Lib.hid e5
          have HOW := Lib.hid ho
          have C1 := Lib.hid c1
          have C23 := Lib.hid (And.intro c2 c3)
          have HR2 := Lib.hid hr2
          clear e2 e3 e4 e5 ho hr2 c1 c2 c3 hI
          go_wp2_with fail
          refine (hAppend_is E3.out (by omega) in0 HT.out t (by omega) (by omega) C1.out).mono ?_
          rintro e w8 ⟨rfl, L3, v3, h8, k8⟩
          have hown8 : w8.ownsRow w.heap.size 9 1 _ R.length (R.map vStr) := ownKeep HOW.out fun b hb => k8.fr.block b (brow_lt (ownKind HOW.out hb).choose_spec) (E5.out b hb)
          have hap8 : ∀ b, (Value.ownBlock _) = some b → ¬ MO r L3 rj v3 b := fun b hb hm => by
            rcases k8.own b hm with h | h
            · exact E5.out b hb h
            · have := (HOW.out.lt b hb).2
              omega
          have H8 := Lib.hid h8
          have HO8 := Lib.hid hown8
          have HP8 := Lib.hid hap8
          clear h8 k8 hown8 hap8 E3 E5 HOW C1
          rcases c4 with ⟨rfl, hR3⟩ | ⟨rfl, hR3⟩
          · subst hR3
            go_wp2
            go_roundw
            case rel => exact ⟨q + 1, _, b3, by omega, by go_num, Lib.hid ⟨⟨L3, d3, _, v3, by omega, C23.out.1, H8.out, C23.out.2, HP8.out⟩, HO8.out, HR2.out, by omega⟩⟩
            case measure => simp [intOf]; omega
          · subst hR3
            have hbz := H8.out.bel.size
            have vq8 := VQ.out w8 H8.out.bel
            go_wp2_with (at_builtin; refine wpList_append_lies _ rfl _ _ 32 rfl w.heap.size 9 i0 (.string ⟨#[]⟩) 1 16 Tryd.underlying32 hinf hz0 hz1 hz2 rfl (by decide) _ _ _ rfl (HO8.out.alloc _) ⟨w8.heap.size, 0, none⟩ 1 1 [.string t] rfl rfl ?qc1 ?qc2 (by decide) ?qc3 ?qc4 ?qc5 (w8.heap.size + 1) ?qc6 ?_)
            case qc1 =>
              intro j x hj
              match j, hj with
              | 0, hj => simp at hj; subst hj; simp [Addr.add]
            case qc2 => intro x hx; simp at hx; subst hx; rfl
            case qc3 => unfold maxLen; omega
            case qc4 => omega
            case qc5 => simp; omega
            case qc6 => simp
            intro g capg w9 hown' hgrow hat hlt9
            have hba : Below w8.heap.size w8 (w8.alloc (.cells #[.string t] 9)) := (Below.refl _ _).alloc (Nat.le_refl _) _
            have h9 := (H8.out.below hba).beside (HO8.out.alloc _) (Nat.le_refl _) HP8.out hgrow
            have es : [Value.string t] = [vStr t.data.toList] := by simp [vStr, bs]
            have hnx : SWant w r (q + 1) rj (.slice (some ⟨g, 0, none⟩) (R.length + 1) capg) (R ++ [t.data.toList]) b3 w9 := by
              refine ⟨⟨L3, d3, _, v3, by omega, C23.out.1, h9, C23.out.2, fun b hb hm => ?_⟩, ?_, fun x hx => ?_, by simp; omega⟩
              · simp only [Value.ownBlock, Option.some.injEq] at hb
                subst hb
                rcases hat with h | h
                · exact HP8.out g h hm
                · have := H8.out.lt hm
                  omega
              · rw [List.length_append, List.map_append, List.map_cons, List.map_nil, ← es]
                exact hown'
              · rcases List.mem_append.1 hx with hx | hx
                · exact HR2.out x hx
                · simp only [List.mem_singleton] at hx; subst hx; omega
            have HNX := Lib.hid hnx
            clear hown' hgrow hat hlt9 hba h9 es hnx H8 HO8 HP8
            go_wp2
            go_roundw
            case rel => exact ⟨q + 1, _, b3, by omega, by go_num, HNX⟩
            case measure => simp [intOf]; omega
        · obtain rfl : q = s.length := by omega
          obtain ⟨⟨L2, d2, n2, v2, e1, e2, e3, e4, e5⟩, ho, hr2, hrl⟩ := hI.out
          have hR := forms_200 hr2
          have E3 := Lib.hid e3
          have E5 := Lib.hid e5
          have HOW := Lib.hid ho
          have hby := Lib.hid (fun h : (jsync d2 0 bad).2.1 = 0 => (show bad = false ∧ (d2.sync 0).2 = 0 by
            unfold jsync at h
            cases bad with
            | true => simp at h
            | false => exact ⟨rfl, h⟩))
          have HE := Lib.hid (And.intro e2 e4)
          have hR2 := Lib.hid hr2
          clear e2 e3 e4 e5 ho hr2 hI
          go_wp2_with fail
          refine (hJSync E3.out (by omega) in0).mono ?_
          rintro e w8 ⟨he, L3, v3, h8, k8⟩
          have hown8 : w8.ownsRow w.heap.size 9 1 _ R.length (R.map vStr) := ownKeep HOW.out fun b hb => k8.fr.block b (brow_lt (ownKind HOW.out hb).choose_spec) (E5.out b hb)
          obtain ⟨Aw, cw, hvw, hwr⟩ := TRow.of_own (O := MO r L3 rj v3) hown8 (fun b hb hm => by
            rcases k8.own b hm with h | h
            · exact E5.out b hb h
            · have := (HOW.out.lt b hb).2
              omega)
          subst hvw
          have H8 := Lib.hid h8
          have HWR := Lib.hid hwr
          clear h8 k8 hown8 hwr E3 E5 HOW
          by_cases hc : (jsync d2 0 bad).2.1 = 0
          · obtain ⟨rfl, hs0⟩ := hby.out hc
            obtain ⟨_, _, g3, g4⟩ := Dk.sync_ok hs0
            have hj1 : (jsync d2 0 false).1 = (d2.sync 0).1 := rfl
            have hj2 : (jsync d2 0 false).2.2 = false := by
              unfold jsync
              simp [hs0]
            have hh8 := H8.out
            rw [hj1, hj2] at hh8
            rw [HE.out.2 rfl] at g4
            have hus := up_sync HE.out.1 0
            subst he
            rw [hc]
            have H8b := Lib.hid hh8
            have G4 := Lib.hid g4
            clear hh8 g3 g4 hj1 hj2 H8 hby HE
            generalize (d2.sync 0).1 = d3 at *
            go_wp2_with fail
            refine (jLose H8b.out in0).mono ?_
            rintro e w9 ⟨rfl, L4, h9, k9⟩
            have h0 : SLast w r (.pointer (some ⟨rj, 0, none⟩)) Aw R w9 := ⟨rj, L4, d3.lose 0, v3, rfl, ⟨hus.down, hus.armed⟩, rfl, ⟨G4.out.now, G4.out.last, G4.out.free⟩, h9.mono (by omega), HWR.out.step k9⟩
            have H0 := Lib.hid h0
            clear h9 k9 h0 H8b HWR hus G4 hs0 hc
            go_wp2
            go_loopw [11, 17] (fun j i wr => ∃ q : Nat, q ≤ 2 ∧ i = .int .i64 q ∧ Hid (SLast w r j Aw R wr)) (fun _ i _ => 2 - (intOf i).toNat)
            case atStart => exact ⟨0, by omega, rfl, H0⟩
            case round =>
              clear H0
              obtain ⟨q, hq, rfl, hI⟩ := hrel
              obtain ⟨rk, L5, d5, v5, hj, a1, a2, a3, a4, a5⟩ := hI.out
              subst hj
              have A4 := Lib.hid a4
              have A5 := Lib.hid a5
              have A3 := Lib.hid a3
              have A1 := Lib.hid a1
              have A2 := Lib.hid a2
              clear a1 a2 a3 a4 a5 hI
              by_cases hlt : q < 2
              · have hlt' : (q : Int) < 2 := by omega
                go_wp2_with fail
                refine (hAll A4.out (by omega)).mono ?_
                rintro e wa ⟨Aa, ca, rfl, _, hra, ha, hba⟩
                have HA1 := Lib.hid ha
                have HWA := Lib.hid (A5.out.below hba)
                have HRA := Lib.hid hra
                clear hra ha hba A4 A5
                go_wp2_with fail
                refine (sameT_any Aa ca Aw cw R wa HRA.out HWA.out (by omega)).mono ?_
                rintro e wb ⟨rfl, hbb⟩
                have HA2 := Lib.hid (HA1.out.below hbb)
                have HWB := Lib.hid (HWA.out.below hbb)
                clear hbb HA1 HWA HRA
                have hcrash : ∀ (X : Option Addr) (cX : Nat) (xs : List Int), JRow w X xs → xs.length ≤ 60 → Calls Tryd.prog 18 #[.pointer (some ⟨r, 0, none⟩), .slice X xs.length cX] wb (fun e w' => e = .returned (.tuple #[]) ∧ ∃ L6, Held w r L6 (d5.crash xs) 40000 w' ∧ TRow (Own r L6) w' Aw R) := fun X cX xs hx hxl =>
                  (mCrash HA2.out.disk (by omega) (hx.krd HA2.out.bel HA2.out.held.own cX) (by omega)).mono fun e w' ⟨he, L6, hd6, k6⟩ => ⟨he, L6, HA2.out.held.step hd6 k6, (HWB.out.sub (O' := Own r L5) (fun b _ hb => .inl hb)).step (MStep.of_p k6)⟩
                have HCR := Lib.hid hcrash
                clear hcrash HA2 HWB
                have hend : ∀ (xs : List Int) (L6 : Lay) (w' : World), Held w r L6 (d5.crash xs) 40000 w' → TRow (Own r L6) w' Aw R → Calls Tryd.prog 19 #[.pointer (some ⟨r, 0, none⟩)] w' (fun e w'' => e = .returned (.tuple #[]) ∧ ∃ L7 d7, Held w r L7 d7 40000 w'' ∧ TRow (Own r L7) w'' Aw R ∧ Dk.Up d7 ∧ d7.lost = 0 ∧ d7.now 0 = forms R) := fun xs L6 w' hh hrow =>
                  (mStart hh.at_).mono fun e w'' ⟨he, L7, hd7, k7⟩ => ⟨he, L7, _, hh.step hd7 k7, hrow.step (MStep.of_p k7), up_crash A1.out xs, by rw [lost_crash]; exact A2.out, (Dk.kept_start (Dk.kept_crash A3.out xs)).now⟩
                have HEND := Lib.hid hend
                have hopen : ∀ (L7 : Lay) (d7 : Dk) (w' : World), Held w r L7 d7 40000 w' → TRow (Own r L7) w' Aw R → Dk.Up d7 → d7.lost = 0 → d7.now 0 = forms R → Calls Tryd.prog 10 #[.pointer (some ⟨r, 0, none⟩), .int .i64 0] w' (fun e w'' => ∃ rk, e = .returned (.tuple #[.pointer (some ⟨rk, 0, none⟩), .int .i64 0]) ∧ SLast w r (.pointer (some ⟨rk, 0, none⟩)) Aw R w'') := fun L7 d7 w' hh hrow hu hl0 hn0 => by
                  obtain ⟨o1, o2, o3⟩ := jopen_up hu hh.at_.ok ok0 hl0
                  rw [hn0, recs_forms (by unfold maxI; omega) (fun t ht => by have := hR2.out t ht; omega)] at o2 o3
                  refine (hOpen_ok hh (by omega) in0 o1).mono ?_
                  rintro e w'' ⟨L8, rk, vk, he, hj, k8⟩
                  rw [o2] at hj
                  exact ⟨rk, he, rk, L8, _, vk, rfl, o3.up, o3.lost.trans hl0, o3.kept, hj, hrow.step k8⟩
                have HOP := Lib.hid hopen
                clear hend hopen A1 A2 A3
                by_cases hq0 : q = 0
                · subst hq0
                  go_wp2_with fail
                  refine (HCR.out B cB one HB.out (by omega)).mono ?_
                  rintro e wc ⟨rfl, L6, hh6, hr6⟩
                  have HN := Lib.hid (HEND.out one L6 wc hh6 hr6)
                  clear hh6 hr6 HEND HCR
                  go_wp2_with fail
                  refine HN.out.mono ?_
                  rintro e wd ⟨rfl, L7, d7, hh7, hr7, u7, l7, n7⟩
                  have HO7 := Lib.hid (HOP.out L7 d7 wd hh7 hr7 u7 l7 n7)
                  clear hh7 hr7 u7 l7 n7 HN HOP
                  go_wp2_with fail
                  refine HO7.out.mono ?_
                  rintro e we ⟨rk2, rfl, h10⟩
                  have H10 := Lib.hid h10
                  clear h10 HO7
                  go_wp2
                  go_roundw
                  case rel => exact ⟨1, by omega, rfl, H10⟩
                  case measure => simp [intOf]
                · obtain rfl : q = 1 := by omega
                  go_wp2_with fail
                  refine (HCR.out C cC two HC.out (by omega)).mono ?_
                  rintro e wc ⟨rfl, L6, hh6, hr6⟩
                  have HN := Lib.hid (HEND.out two L6 wc hh6 hr6)
                  clear hh6 hr6 HEND HCR
                  go_wp2_with fail
                  refine HN.out.mono ?_
                  rintro e wd ⟨rfl, L7, d7, hh7, hr7, u7, l7, n7⟩
                  have HO7 := Lib.hid (HOP.out L7 d7 wd hh7 hr7 u7 l7 n7)
                  clear hh7 hr7 u7 l7 n7 HN HOP
                  go_wp2_with fail
                  refine HO7.out.mono ?_
                  rintro e we ⟨rk2, rfl, h10⟩
                  have H10 := Lib.hid h10
                  clear h10 HO7
                  go_wp2
                  go_roundw
                  case rel => exact ⟨2, by omega, rfl, H10⟩
                  case measure => simp [intOf]
              · obtain rfl : q = 2 := by omega
                go_wp2_with fail
                refine (hAll A4.out (by omega)).mono ?_
                rintro e wa ⟨Aa, ca, rfl, _, hra, ha, hba⟩
                have HA1 := Lib.hid ha
                have HWA := Lib.hid (A5.out.below hba)
                have HRA := Lib.hid hra
                clear hra ha hba A4 A5
                go_wp2_with fail
                refine (sameT_any Aa ca Aw cw R wa HRA.out HWA.out (by omega)).mono ?_
                rintro e wb ⟨rfl, hbb⟩
                have HZ := Lib.hid (HA1.out.below hbb).bel
                clear hbb HA1 HWA HRA
                go_wp2
                go_ret
                exact ⟨rfl, HZ.out⟩
          · have hcb : ((jsync d2 0 bad).2.1 != 0) = true := by simpa using hc
            subst he
            clear hby HE
            generalize (jsync d2 0 bad).2.1 = c at *
            go_wp2_with fail
            refine (hAll H8.out (by omega)).mono ?_
            rintro e wa ⟨Aa, ca, rfl, _, hra, ha, hba⟩
            have HA1 := Lib.hid ha
            have HWA := Lib.hid (HWR.out.below hba)
            have HRA := Lib.hid hra
            clear hra ha hba H8 HWR
            go_wp2_with fail
            refine (sameT_any Aa ca Aw cw R wa HRA.out HWA.out (by omega)).mono ?_
            rintro e wb ⟨rfl, hbb⟩
            have HZ := Lib.hid (HA1.out.below hbb).bel
            clear hbb HA1 HWA HRA
            go_wp2
            go_ret
            exact ⟨rfl, HZ.out⟩

end Go.Proofs.YtkbffhlkbcdgnaaDoor
