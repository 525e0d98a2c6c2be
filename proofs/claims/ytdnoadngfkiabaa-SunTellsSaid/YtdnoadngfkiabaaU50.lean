/-
  Layer 12: contracts of the reference of the sun: Right, Count, may, mask, Mask, Hours, MaskOf, Lost.
-/
import Derived.Test.YtdnoadngfkiabaaU39
import Derived.Test.YtdnoadngfkiabaaU49
import Derived.Test.YtdnoadngfkiabaaU46
set_option linter.unusedVariables false
set_option maxRecDepth 100000
namespace Go.Proofs.Ytdnoadngfkiabaa
open Go.RowKit


set_option maxHeartbeats 16000000 in
theorem hright_any (A : Option Addr) (cap : Nat) (T : List V3) (w : World) (h : TbRow w A T) (hl : T.length ≤ 9223372036854775807) : Calls Try.prog 10 #[.slice A T.length cap] w (BlIs (decide (TabOk T)) w) := by
  have H1 := Lib.hid h; clear h
  have HB0 := Lib.hid (Below.refl w.heap.size w)
  obtain ⟨r, hr⟩ : ∃ r, r = decide (TabOk T) := ⟨_, rfl⟩
  rw [← hr]
  have HR := Lib.hid hr; clear hr
  go_enter Try.func10, Try.ntmps10
  go_wp2_with fail
  go_loopw [3] (fun i wr => ∃ (k : Nat), k ≤ T.length ∧ i = .int .i64 k ∧ Hid (Below w.heap.size w wr) ∧ Hid (∀ j (h : j < T.length), j < k → SdOk T[j])) (fun i _ => T.length - (intOf i).toNat)
  case atStart => exact ⟨0, Nat.zero_le _, rfl, HB0, Lib.hid (fun j _ h => by omega)⟩
  case round =>
    clear HB0
    obtain ⟨k, hk, rfl, HB, HT⟩ := hrel
    by_cases hlt : k < T.length
    · obtain ⟨b1, o1, rfl, hb1, hv1⟩ := H1.out (by omega)
      obtain ⟨q0, q1, q2⟩ := hv1 k hlt
      have wc := fun o => HB.out.cell (p := ⟨b1, o, none⟩) hb1
      have q0 := (wc _).trans q0; have q1 := (wc _).trans q1; have q2 := (wc _).trans q2
      have hbw : b1 < wr.heap.size := Nat.lt_of_lt_of_le hb1 HB.out.size
      have n0 : (0 : Int) ≤ (k : Int) := by omega
      have n1 : (k : Int) < (T.length : Int) := by omega
      have BAD : Hid (¬ SdOk T[k] → r = false) := Lib.hid (fun hn => by rw [HR.out]; exact decide_eq_false (fun ht => hn (ht.1 _ (List.getElem_mem hlt))))
      have NX : Hid (SdOk T[k] → ∀ j (h : j < T.length), j < k + 1 → SdOk T[j]) := Lib.hid (fun hg j h hj => by
        by_cases e : j < k
        · exact HT.out j h e
        · obtain rfl : j = k := by omega
          exact hg)
      obtain ⟨u, hu⟩ : ∃ u, u = T[k] := ⟨_, rfl⟩
      rw [← hu] at q0 q1 q2 BAD NX
      clear hu hv1 wc HT hb1
      obtain ⟨y2, hy2⟩ : ∃ y2, y2 = wr.alloc (.cells #[.int .i64 u.x, .int .i64 u.y, .int .i64 u.z] 25) := ⟨_, rfl⟩
      have hb2 : Below wr.heap.size wr y2 := by rw [hy2]; exact (Below.refl _ _).alloc (Nat.le_refl _) _
      have HU : Hid (P3At y2 wr.heap.size u) := Lib.hid (by rw [hy2]; exact P3At.new wr u)
      have HB2 := Lib.hid (HB.out.trans (hb2.mono HB.out.size))
      have HY2 := Lib.hid hy2
      clear hy2 hb2 HB
      go_upto_region 5 with fail
      rw [← HY2.out]
      clear HY2 q0 q1 q2 hbw
      generalize wr.heap.size = gu at *
      have k0 := HU.out.c0; have k1 := HU.out.c1; have k2 := HU.out.c2; have kl := HU.out.lt
      clear HU
      by_cases c0 : u.x < -4096
      case pos =>
        have HQ := Lib.hid (BAD.out (fun h => by have a0 := h.1.1; have a1 := h.1.2; have a2 := h.2.1.1; have a3 := h.2.1.2; have a4 := h.2.2.1; have a5 := h.2.2.2; omega))
        clear BAD NX
        go_wp2_with fail
        go_ret
        exact ⟨by rw [HQ.out]; rfl, HB2.out⟩
      case neg =>
        by_cases c1 : 4096 < u.x
        case pos =>
          have HQ := Lib.hid (BAD.out (fun h => by have a0 := h.1.1; have a1 := h.1.2; have a2 := h.2.1.1; have a3 := h.2.1.2; have a4 := h.2.2.1; have a5 := h.2.2.2; omega))
          clear BAD NX
          go_wp2_with fail
          go_ret
          exact ⟨by rw [HQ.out]; rfl, HB2.out⟩
        case neg =>
          by_cases c2 : u.y < -4096
          case pos =>
            have HQ := Lib.hid (BAD.out (fun h => by have a0 := h.1.1; have a1 := h.1.2; have a2 := h.2.1.1; have a3 := h.2.1.2; have a4 := h.2.2.1; have a5 := h.2.2.2; omega))
            clear BAD NX
            go_wp2_with fail
            go_ret
            exact ⟨by rw [HQ.out]; rfl, HB2.out⟩
          case neg =>
            by_cases c3 : 4096 < u.y
            case pos =>
              have HQ := Lib.hid (BAD.out (fun h => by have a0 := h.1.1; have a1 := h.1.2; have a2 := h.2.1.1; have a3 := h.2.1.2; have a4 := h.2.2.1; have a5 := h.2.2.2; omega))
              clear BAD NX
              go_wp2_with fail
              go_ret
              exact ⟨by rw [HQ.out]; rfl, HB2.out⟩
            case neg =>
              by_cases c4 : u.z < 1
              case pos =>
                have HQ := Lib.hid (BAD.out (fun h => by have a0 := h.1.1; have a1 := h.1.2; have a2 := h.2.1.1; have a3 := h.2.1.2; have a4 := h.2.2.1; have a5 := h.2.2.2; omega))
                clear BAD NX
                go_wp2_with fail
                go_ret
                exact ⟨by rw [HQ.out]; rfl, HB2.out⟩
              case neg =>
                by_cases c5 : 4096 < u.z
                case pos =>
                  have HQ := Lib.hid (BAD.out (fun h => by have a0 := h.1.1; have a1 := h.1.2; have a2 := h.2.1.1; have a3 := h.2.1.2; have a4 := h.2.2.1; have a5 := h.2.2.2; omega))
                  clear BAD NX
                  go_wp2_with fail
                  go_ret
                  exact ⟨by rw [HQ.out]; rfl, HB2.out⟩
                case neg =>
                  have HN := Lib.hid (NX.out ⟨⟨by omega, by omega⟩, ⟨by omega, by omega⟩, by omega, by omega⟩)
                  clear BAD NX
                  go_wp2_with fail
                  go_roundw
                  case rel => exact ⟨k + 1, by omega, by go_num, HB2, HN⟩
                  case measure => simp [intOf]; omega
    · obtain rfl : k = T.length := by omega
      have HQ : Hid (r = decide (T.length ≤ 24)) := Lib.hid (by
        rw [HR.out]
        refine decide_eq_decide.2 ⟨fun h => h.2, fun h => ⟨fun d hd => ?_, h⟩⟩
        obtain ⟨j, hj, rfl⟩ := List.mem_iff_getElem.1 hd
        exact HT.out j hj hj)
      by_cases h24 : T.length ≤ 24
      · have s1 : (T.length : Int) ≤ 24 := by omega
        rw [decide_eq_true h24] at HQ
        clear h24
        go_wp2_with fail
        go_ret
        exact ⟨by rw [HQ.out]; rfl, HB.out⟩
      · have s1 : ¬ (T.length : Int) ≤ 24 := by omega
        rw [decide_eq_false h24] at HQ
        clear h24
        go_wp2_with fail
        go_ret
        exact ⟨by rw [HQ.out]; rfl, HB.out⟩

/-! ### Count -/
set_option maxHeartbeats 16000000 in
theorem hcount_any (m : Int) (w : World) : Calls Try.prog 20 #[.int .i64 m] w (InIs (cntI m) w) := by
  have HR : Hid (cntI m = ((popN 63 (lowN m) : Nat) : Int)) := Lib.hid rfl
  generalize cntI m = R at *
  go_enter Try.func20, Try.ntmps20
  go_wp2_with fail
  go_loopw [3, 4] (fun n i wr => ∃ (k N : Nat), k ≤ 63 ∧ i = .int .i64 k ∧ n = .int .i64 N ∧ Hid (N = popN k (lowN m)) ∧ wr = w) (fun _ i _ => 63 - (intOf i).toNat)
  case atStart => exact ⟨0, 0, by omega, rfl, rfl, Lib.hid rfl, rfl⟩
  case round =>
    obtain ⟨k, N, hk, rfl, rfl, HN, rfl⟩ := hrel
    by_cases hlt : k < 63
    · have n0 : (0 : Int) ≤ (k : Int) := by omega
      have n1 : (k : Int) < 63 := by omega
      have HNN : Hid (N ≤ 63) := Lib.hid (by rw [HN.out]; have := popN_le k (lowN m); omega)
      have hb := low_bit m k hlt
      have HNX : Hid (popN (k + 1) (lowN m) = N + (if (lowN m).testBit k = true then 1 else 0)) := Lib.hid (by rw [HN.out]; rfl)
      cases hc : (lowN m).testBit k
      case false =>
        rw [hc] at hb HNX
        have hbit : bits .and .i64 (m / 2 ^ k) 1 = 0 := by rw [i64_and_one]; exact hb
        have HN2 : Hid (N = popN (k + 1) (lowN m)) := Lib.hid (by rw [HNX.out]; rfl)
        clear hb HNX hc HN
        go_wp2_with fail
        go_roundw
        case rel => exact ⟨k + 1, N, by omega, by go_num, rfl, HN2, trivial⟩
        case measure => simp [intOf]; omega
      case true =>
        rw [hc] at hb HNX
        have hbit : bits .and .i64 (m / 2 ^ k) 1 = 1 := by rw [i64_and_one]; exact hb
        have HN2 : Hid (N + 1 = popN (k + 1) (lowN m)) := Lib.hid (by rw [HNX.out]; rfl)
        have hadd : wrap64 ((N : Int) + 1) = ((N + 1 : Nat) : Int) := by have := HNN.out; rw [IntWalk.wrap64_in _ (by omega)]; omega
        clear hb HNX hc HN
        obtain ⟨N2, hN2⟩ : ∃ N2, N2 = N + 1 := ⟨_, rfl⟩
        rw [← hN2] at HN2 hadd
        clear hN2
        go_wp2_with fail
        go_roundw
        case rel => exact ⟨k + 1, N2, by omega, by go_num, by rw [hadd], HN2, trivial⟩
        case measure => simp [intOf]; omega
    · obtain rfl : k = 63 := by omega
      have HQ : Hid (R = (N : Int)) := Lib.hid (by rw [HR.out, HN.out])
      go_wp2_with fail
      go_ret
      exact ⟨by rw [HQ.out]; rfl, Below.refl _ _⟩
/-! ### may -/
theorem solP_nil : SolP [] := by
  have h := solB_small (l := []) (fun b hb => by cases hb) (by simp)
  exact h
noncomputable def mayB (T : List V3) (S : List Sl) (p : V3) : Bool := decide (TabOk T) && (solPB S && decide (PtOk p))
set_option maxHeartbeats 16000000 in
theorem hmay_any (A : Option Addr) (cap : Nat) (T : List V3) (B : Option Addr) (cb : Nat) (S : List Sl) (p : V3) (w : World) (h1 : TbRow w A T) (hT : T.length ≤ 9223372036854775807) (h2 : SIn w B cb S) :
    Calls Try.prog 25 #[.slice A T.length cap, .slice B S.length cb, .agg #[.int .i64 p.x, .int .i64 p.y, .int .i64 p.z]] w (BlIs (mayB T S p) w) := by
  obtain ⟨w0, hw0⟩ : ∃ w0, w0 = w.alloc (.cells #[.int .i64 p.x, .int .i64 p.y, .int .i64 p.z] 25) := ⟨_, rfl⟩
  have HB0 : Hid (Below w.heap.size w w0) := Lib.hid (by rw [hw0]; exact (Below.refl _ _).alloc (Nat.le_refl _) _)
  have HP0 : Hid (P3At w0 w.heap.size p) := Lib.hid (by rw [hw0]; exact P3At.new w p)
  have HW0 := Lib.hid hw0
  clear hw0
  have HR1 := Lib.hid (fun w' (hb : Below w.heap.size w w') => hright_any A cap T w' (h1.below hb) hT)
  have HR2 : Hid (∀ w', Below w.heap.size w w' → Calls Try.prog 30 #[.slice B S.length cb] w' (BlIs (solPB S) w')) := Lib.hid (fun w' hb => by
    by_cases cs : SolP S
    · rw [solPB_yes cs]; exact dright_yes (h2.below hb) cs
    · rw [solPB_no cs]; exact dright_no (h2.below hb) cs)
  have HR3 : Hid (∀ w', Calls Try.prog 41 #[.agg #[.int .i64 p.x, .int .i64 p.y, .int .i64 p.z]] w' (BlIs (decide (PtOk p)) w')) := Lib.hid (fun w' => eValid_nd p.x p.y p.z w')
  unfold mayB
  clear h1 h2 hT
  generalize decide (TabOk T) = t at *
  generalize solPB S = s at *
  generalize decide (PtOk p) = q at *
  go_enter Try.func25, Try.ntmps25
  go_upto_region 1 with fail
  rw [← HW0.out]; clear HW0
  obtain ⟨g, hg⟩ : ∃ g, g = w.heap.size := ⟨_, rfl⟩
  rw [← hg] at HP0
  simp only [← hg]
  clear hg
  cases t
  case false =>
    have p0 := HP0.out.c0; have p1 := HP0.out.c1; have p2 := HP0.out.c2; have pl := HP0.out.lt
    go_wp2_with fail
    with_reducible refine Calls.mono (HR1.out _ HB0.out) ?_
    rintro e w1 ⟨rfl, hb⟩
    have HB1 := Lib.hid (HB0.out.trans (hb.mono HB0.out.size))
    clear hb HB0 HP0 HR1 HR2 HR3 p0 p1 p2 pl
    go_wp2_with fail
    go_ret
    exact ⟨rfl, HB1.out⟩
  case true =>
    go_wp2_with fail
    with_reducible refine Calls.mono (HR1.out _ HB0.out) ?_
    rintro e w1 ⟨rfl, hb⟩
    have HB1 := Lib.hid (HB0.out.trans (hb.mono HB0.out.size))
    have HP1 := Lib.hid (HP0.out.go hb)
    clear hb HB0 HP0 HR1
    cases s
    case false =>
      go_wp2_with fail
      with_reducible refine Calls.mono (HR2.out _ HB1.out) ?_
      rintro e w2 ⟨rfl, hb⟩
      have HB2 := Lib.hid (HB1.out.trans (hb.mono HB1.out.size))
      clear hb HB1 HP1 HR2 HR3
      go_wp2_with fail
      go_ret
      exact ⟨rfl, HB2.out⟩
    case true =>
      go_wp2_with fail
      with_reducible refine Calls.mono (HR2.out _ HB1.out) ?_
      rintro e w2 ⟨rfl, hb⟩
      have HB2 := Lib.hid (HB1.out.trans (hb.mono HB1.out.size))
      have HP2 := Lib.hid (HP1.out.go hb)
      clear hb HB1 HP1 HR2
      have p0 := HP2.out.c0; have p1 := HP2.out.c1; have p2 := HP2.out.c2; have pl := HP2.out.lt
      go_wp2_with fail
      with_reducible refine Calls.mono (HR3.out _) ?_
      rintro e w3 ⟨rfl, hb⟩
      have HB3 := Lib.hid (HB2.out.trans (hb.mono HB2.out.size))
      clear hb HB2 HP2 HR3 p0 p1 p2 pl
      go_wp2_with fail
      go_ret
      exact ⟨rfl, HB3.out⟩
theorem mayB_iff (T : List V3) (S : List Sl) (p : V3) : mayB T S p = true ↔ TabOk T ∧ SolP S ∧ PtOk p := by
  unfold mayB
  rw [Bool.and_eq_true, Bool.and_eq_true, decide_eq_true_iff, decide_eq_true_iff]
  have : solPB S = true ↔ SolP S := by unfold solPB; simp
  rw [this]
/-! ### mask -/
/-- what a region reads: a point, a direction. -/
def Ph12 (g b i : Nat) (p u : V3) (w0 w' : World) : Prop := w'.cell? ⟨g, 0, none⟩ = some (.int .i64 p.x) ∧ w'.cell? ⟨g, 1, none⟩ = some (.int .i64 p.y) ∧ w'.cell? ⟨g, 2, none⟩ = some (.int .i64 p.z) ∧ w'.cell? ⟨b, i, none⟩ = some (.int .i64 u.x) ∧ w'.cell? ⟨b, i + 1, none⟩ = some (.int .i64 u.y) ∧ w'.cell? ⟨b, i + 2, none⟩ = some (.int .i64 u.z) ∧ g < w'.heap.size ∧ b < w'.heap.size ∧ Hid (Below w0.heap.size w0 w')
theorem Ph12.bel {g b i : Nat} {p u : V3} {w0 w : World} (h : Ph12 g b i p u w0 w) : Below w0.heap.size w0 w := h.2.2.2.2.2.2.2.2.out
theorem Ph12.go {g b i : Nat} {p u : V3} {w0 w w' : World} (h : Ph12 g b i p u w0 w) (hb : Below w.heap.size w w') : Ph12 g b i p u w0 w' := by
  obtain ⟨a0, a1, a2, b0, b1, b2, l0, l1, h8⟩ := h
  have x := fun k => hb.cell (p := ⟨g, k, none⟩) l0
  have y := fun k => hb.cell (p := ⟨b, k, none⟩) l1
  exact ⟨(x _).trans a0, (x _).trans a1, (x _).trans a2, (y _).trans b0, (y _).trans b1, (y _).trans b2, Nat.lt_of_lt_of_le l0 hb.size, Nat.lt_of_lt_of_le l1 hb.size, Lib.hid (h8.out.trans (hb.mono h8.out.size))⟩
theorem Ph12.drewN {g b i : Nat} {p u : V3} {w0 w : World} (h : Ph12 g b i p u w0 w) (k : Nat) : Ph12 g b i p u w0 (w.drewN k) := h.go (below_drewN (Below.refl _ _) k)

set_option maxHeartbeats 16000000 in
theorem hmask_any (A : Option Addr) (cap : Nat) (T : List V3) (B : Option Addr) (cb : Nat) (S : List Sl) (p : V3) (w : World) (h1 : TbRow w A T) (hT : T.length ≤ 24) (h2 : SIn w B cb S) :
    Calls Try.prog 26 #[.slice A T.length cap, .slice B S.length cb, .agg #[.int .i64 p.x, .int .i64 p.y, .int .i64 p.z]] w (InIs ((mskN (frB S p T) : Nat) : Int) w) := by
  have H1 := Lib.hid h1; clear h1
  have HRY := Lib.hid (fun w' (hb : Below w.heap.size w w') d => eray_any B cb S p d w' (h2.below hb))
  clear h2
  obtain ⟨w0, hw0⟩ : ∃ w0, w0 = w.alloc (.cells #[.int .i64 p.x, .int .i64 p.y, .int .i64 p.z] 25) := ⟨_, rfl⟩
  have HB0 : Hid (Below w.heap.size w w0) := Lib.hid (by rw [hw0]; exact (Below.refl _ _).alloc (Nat.le_refl _) _)
  have HP0 : Hid (P3At w0 w.heap.size p) := Lib.hid (by rw [hw0]; exact P3At.new w p)
  have HW0 := Lib.hid hw0
  obtain ⟨Q, hQ⟩ : ∃ Q, Q = mskN (frB S p T) := ⟨_, rfl⟩
  rw [← hQ]
  have HQQ := Lib.hid hQ
  clear hw0 hQ
  go_enter Try.func26, Try.ntmps26
  go_upto_region 1 with fail
  rw [← HW0.out]; clear HW0
  go_wp2_with fail
  obtain ⟨g, hg⟩ : ∃ g, g = w.heap.size := ⟨_, rfl⟩
  rw [← hg] at HP0
  simp only [← hg]
  clear hg
  go_loopw [7, 8] (fun m i wr => ∃ (k M : Nat), k ≤ T.length ∧ i = .int .i64 k ∧ m = .int .i64 M ∧ Hid (M = mskN (frB S p (T.take k))) ∧ Hid (P3At wr g p) ∧ Hid (Below w.heap.size w wr)) (fun _ i _ => T.length - (intOf i).toNat)
  case atStart => exact ⟨0, 0, Nat.zero_le _, rfl, rfl, Lib.hid rfl, HP0, HB0⟩
  case round =>
    clear HP0 HB0
    obtain ⟨k, M, hk, rfl, rfl, HM, HP, HB⟩ := hrel
    by_cases hlt : k < T.length
    · obtain ⟨b1, o1, rfl, hb1, hv1⟩ := H1.out (by omega)
      obtain ⟨q0, q1, q2⟩ := hv1 k hlt
      have wc := fun o => HB.out.cell (p := ⟨b1, o, none⟩) hb1
      have q0 := (wc _).trans q0; have q1 := (wc _).trans q1; have q2 := (wc _).trans q2
      have hbw : b1 < wr.heap.size := Nat.lt_of_lt_of_le hb1 HB.out.size
      have n0 : (0 : Int) ≤ (k : Int) := by omega
      have n1 : (k : Int) < (T.length : Int) := by omega
      have HNX : Hid (mskN (frB S p (T.take (k + 1))) = M + (if ryB S p T[k] = true then 0 else 2 ^ k)) := Lib.hid (by rw [HM.out]; exact msk_step S p T k hlt)
      have HMlt : Hid (M < 16777217) := Lib.hid (by rw [HM.out]; exact mskN_lt24 (by rw [frB_len, List.length_take]; omega))
      have HPK : Hid (2 ^ k < 16777216) := Lib.hid (lt_pow24 (by omega))
      obtain ⟨u, hu⟩ : ∃ u, u = T[k] := ⟨_, rfl⟩
      rw [← hu] at q0 q1 q2 HNX
      clear hu hv1 wc hb1 HM
      have HRU := Lib.hid (fun w' (hb : Below wr.heap.size wr w') => HRY.out w' (HB.out.trans (hb.mono HB.out.size)) u)
      obtain ⟨rr, hrr⟩ : ∃ rr, rr = ryB S p u := ⟨_, rfl⟩
      rw [← hrr] at HRU HNX
      clear hrr HRY
      have E5 : Hid (Ph12 g b1 (o1 + k * 3) p u wr wr) := Lib.hid ⟨HP.out.c0, HP.out.c1, HP.out.c2, q0, q1, q2, HP.out.lt, hbw, Lib.hid (Below.refl _ _)⟩
      obtain ⟨x0, x1, x2, _, _, _, l0, _, _⟩ := E5.out
      cases rr
      case true =>
        have HNM : Hid (M = mskN (frB S p (T.take (k + 1)))) := Lib.hid (by rw [HNX.out]; rfl)
        clear HNX
        go_upto_region 5 with fail
        refine wp_region_held_drew (S := (fun w' => w'.cell? ⟨g, 0, none⟩ = some (.int .i64 p.x) ∧ w'.cell? ⟨g, 1, none⟩ = some (.int .i64 p.y) ∧ w'.cell? ⟨g, 2, none⟩ = some (.int .i64 p.z) ∧ w'.cell? ⟨b1, o1 + k * 3, none⟩ = some (.int .i64 u.x) ∧ w'.cell? ⟨b1, o1 + k * 3 + 1, none⟩ = some (.int .i64 u.y) ∧ w'.cell? ⟨b1, o1 + k * 3 + 2, none⟩ = some (.int .i64 u.z) ∧ g < w'.heap.size ∧ b1 < w'.heap.size ∧ Hid (Below wr.heap.size wr w'))) (by kernel_rfl) ?_ (fun hHeld => ?_)
        · exact Ph12.drewN E5.out 1
        refine wpAnyH_take (i := 0) (oi := { dst := some 15, op := Go.Op.move (Go.Operand.tmp 1), type := 23, pos := "ref.go:41", after := #[], guard := none }) (v := ?_) rfl (by kernel_rfl) (by kernel_rfl) (by kernel_rfl) (fun _ _ _ h => h) (Or.inl ⟨by rfl, ?_⟩) (by assumption) ?_
        rotate_left
        · (intro w hSw; (try dsimp only at hSw); go_simp); try with_reducible rfl
        try simp only [Act.put, List.setIfInBounds_toArray, List.set_cons_zero, List.set_cons_succ]
        refine wpAnyH_take (i := 1) (oi := { dst := some 16, op := Go.Op.load 25 (Go.Operand.tmp 5), type := 25, pos := "ref.go:41", after := #[], guard := none }) (v := ?_) rfl (by kernel_rfl) (by kernel_rfl) (by kernel_rfl) (fun _ _ _ h => h) (Or.inl ⟨by rfl, ?_⟩) (by assumption) ?_
        rotate_left
        · (intro w hSw; (try dsimp only at hSw); go_simp); try with_reducible rfl
        try simp only [Act.put, List.setIfInBounds_toArray, List.set_cons_zero, List.set_cons_succ]
        refine wpAnyH_take (i := 2) (oi := { dst := some 17, op := Go.Op.move (Go.Operand.tmp 0), type := 22, pos := "ref.go:41", after := #[], guard := none }) (v := ?_) rfl (by kernel_rfl) (by kernel_rfl) (by kernel_rfl) (fun _ _ _ h => h) (Or.inl ⟨by rfl, ?_⟩) (by assumption) ?_
        rotate_left
        · (intro w hSw; (try dsimp only at hSw); go_simp); try with_reducible rfl
        try simp only [Act.put, List.setIfInBounds_toArray, List.set_cons_zero, List.set_cons_succ]
        refine wpAnyH_take (i := 3) (oi := { dst := some 18, op := Go.Op.move (Go.Operand.tmp 8), type := 3, pos := "ref.go:41", after := #[], guard := none }) (v := ?_) rfl (by kernel_rfl) (by kernel_rfl) (by kernel_rfl) (fun _ _ _ h => h) (Or.inl ⟨by rfl, ?_⟩) (by assumption) ?_
        rotate_left
        · (intro w hSw; (try dsimp only at hSw); go_simp); try with_reducible rfl
        try simp only [Act.put, List.setIfInBounds_toArray, List.set_cons_zero, List.set_cons_succ]
        refine wpAnyH_take (i := 4) (oi := { dst := some 19, op := Go.Op.indexAddr 22 (Go.Operand.tmp 17) (Go.Operand.tmp 18), type := 0, pos := "ref.go:41", after := #[{ on := 2, ground := Go.Ground.data }, { on := 3, ground := Go.Ground.data }], guard := none }) (v := ?_) rfl (by kernel_rfl) (by kernel_rfl) (by kernel_rfl) (fun _ _ _ h => h) (Or.inl ⟨by rfl, ?_⟩) (by assumption) ?_
        rotate_left
        · (intro w hSw; (try dsimp only at hSw); go_simp); try with_reducible rfl
        try simp only [Act.put, List.setIfInBounds_toArray, List.set_cons_zero, List.set_cons_succ]
        refine wpAnyH_take (i := 5) (oi := { dst := some 20, op := Go.Op.load 25 (Go.Operand.tmp 19), type := 25, pos := "ref.go:41", after := #[{ on := 4, ground := Go.Ground.data }], guard := none }) (v := ?_) rfl (by kernel_rfl) (by kernel_rfl) (by kernel_rfl) (fun _ _ _ h => h) (Or.inl ⟨by rfl, ?_⟩) (by assumption) ?_
        rotate_left
        · (intro w hSw; (try dsimp only at hSw); go_simp); try with_reducible rfl
        try simp only [Act.put, List.setIfInBounds_toArray, List.set_cons_zero, List.set_cons_succ]
        refine wpAnyH_ready (rs := [6]) (by kernel_rfl) (by simp) ?_
        refine (AllReadyH.cons (o := { dst := some 21, op := Go.Op.call { callee := Go.Callee.value (Go.Operand.func 42), args := #[Go.Operand.tmp 15, Go.Operand.tmp 16, Go.Operand.tmp 20], argTypes := #[23, 25, 25] }, type := 4, pos := "ref.go:41", after := #[{ on := 0, ground := Go.Ground.data }, { on := 1, ground := Go.Ground.data }, { on := 5, ground := Go.Ground.data }], guard := none }) rfl (fun K0 hK => ?_) AllReadyH.nil)
        have hbq9 := Ph12.bel (g := g) (b := b1) (i := o1 + k * 3) (p := p) (u := u) (w0 := wr) hHeld
        go_simp
        go_at_call 42
        with_reducible refine Calls.mono (HRU.out _ hbq9) ?_
        rintro e w96 ⟨rfl, hb⟩
        try go_wp2_with fail
        refine hK.out _ _ (Ph12.go (g := g) (b := b1) (i := o1 + k * 3) (p := p) (u := u) (w0 := wr) (by assumption) hb) (fun hHeld2 => ?_)
        clear hK K0 hHeld hb hbq9
        have hHeld := hHeld2; clear hHeld2
        try simp only [Act.put, List.setIfInBounds_toArray, List.set_cons_zero, List.set_cons_succ]
        refine wpAnyH_take (i := 7) (oi := { dst := some 22, op := Go.Op.unOp Go.UnOp.not 4 (Go.Operand.tmp 21), type := 4, pos := "ref.go:41", after := #[{ on := 6, ground := Go.Ground.data }], guard := none }) (v := ?_) rfl (by kernel_rfl) (by kernel_rfl) (by kernel_rfl) (fun _ _ _ h => h) (Or.inl ⟨by rfl, ?_⟩) (by assumption) ?_
        rotate_left
        · (intro w hSw; (try dsimp only at hSw); go_simp); try with_reducible rfl
        try simp only [Act.put, List.setIfInBounds_toArray, List.set_cons_zero, List.set_cons_succ]
        refine wpAnyH_done (by kernel_rfl) ?_ _
        have HZB := Lib.hid (HB.out.trans ((Ph12.bel (g := g) (b := b1) (i := o1 + k * 3) (p := p) (u := u) (w0 := wr) hHeld).mono HB.out.size))
        have HZP := Lib.hid (HP.out.go (Ph12.bel (g := g) (b := b1) (i := o1 + k * 3) (p := p) (u := u) (w0 := wr) hHeld))
        clear hHeld
        go_wp2_with fail
        go_roundw
        case rel => exact ⟨k + 1, M, by omega, by go_num, rfl, HNM, HZP, HZB⟩
        case measure => simp [intOf]; omega
      case false =>
        have HNM : Hid (M + 2 ^ k = mskN (frB S p (T.take (k + 1)))) := Lib.hid (by rw [HNX.out]; rfl)
        obtain ⟨X, hX⟩ : ∃ X, X = M + 2 ^ k := ⟨_, rfl⟩
        rw [← hX] at HNM
        have hadd : wrap64 ((M : Int) + wrap64 (2 ^ k)) = (X : Int) := by
          have := HPK.out
          have hpos : 0 < 2 ^ k := Nat.pow_pos (by decide)
          have hm := HMlt.out
          have e2 : (2 : Int) ^ k = ((2 ^ k : Nat) : Int) := by simp
          have e3 : wrap64 ((2 ^ k : Nat) : Int) = ((2 ^ k : Nat) : Int) := IntWalk.wrap64_in _ (by omega)
          rw [e2, e3, IntWalk.wrap64_in _ (by omega), hX]
          omega
        clear HNX hX
        go_upto_region 5 with fail
        refine wp_region_held_drew (S := (fun w' => w'.cell? ⟨g, 0, none⟩ = some (.int .i64 p.x) ∧ w'.cell? ⟨g, 1, none⟩ = some (.int .i64 p.y) ∧ w'.cell? ⟨g, 2, none⟩ = some (.int .i64 p.z) ∧ w'.cell? ⟨b1, o1 + k * 3, none⟩ = some (.int .i64 u.x) ∧ w'.cell? ⟨b1, o1 + k * 3 + 1, none⟩ = some (.int .i64 u.y) ∧ w'.cell? ⟨b1, o1 + k * 3 + 2, none⟩ = some (.int .i64 u.z) ∧ g < w'.heap.size ∧ b1 < w'.heap.size ∧ Hid (Below wr.heap.size wr w'))) (by kernel_rfl) ?_ (fun hHeld => ?_)
        · exact Ph12.drewN E5.out 1
        refine wpAnyH_take (i := 0) (oi := { dst := some 15, op := Go.Op.move (Go.Operand.tmp 1), type := 23, pos := "ref.go:41", after := #[], guard := none }) (v := ?_) rfl (by kernel_rfl) (by kernel_rfl) (by kernel_rfl) (fun _ _ _ h => h) (Or.inl ⟨by rfl, ?_⟩) (by assumption) ?_
        rotate_left
        · (intro w hSw; (try dsimp only at hSw); go_simp); try with_reducible rfl
        try simp only [Act.put, List.setIfInBounds_toArray, List.set_cons_zero, List.set_cons_succ]
        refine wpAnyH_take (i := 1) (oi := { dst := some 16, op := Go.Op.load 25 (Go.Operand.tmp 5), type := 25, pos := "ref.go:41", after := #[], guard := none }) (v := ?_) rfl (by kernel_rfl) (by kernel_rfl) (by kernel_rfl) (fun _ _ _ h => h) (Or.inl ⟨by rfl, ?_⟩) (by assumption) ?_
        rotate_left
        · (intro w hSw; (try dsimp only at hSw); go_simp); try with_reducible rfl
        try simp only [Act.put, List.setIfInBounds_toArray, List.set_cons_zero, List.set_cons_succ]
        refine wpAnyH_take (i := 2) (oi := { dst := some 17, op := Go.Op.move (Go.Operand.tmp 0), type := 22, pos := "ref.go:41", after := #[], guard := none }) (v := ?_) rfl (by kernel_rfl) (by kernel_rfl) (by kernel_rfl) (fun _ _ _ h => h) (Or.inl ⟨by rfl, ?_⟩) (by assumption) ?_
        rotate_left
        · (intro w hSw; (try dsimp only at hSw); go_simp); try with_reducible rfl
        try simp only [Act.put, List.setIfInBounds_toArray, List.set_cons_zero, List.set_cons_succ]
        refine wpAnyH_take (i := 3) (oi := { dst := some 18, op := Go.Op.move (Go.Operand.tmp 8), type := 3, pos := "ref.go:41", after := #[], guard := none }) (v := ?_) rfl (by kernel_rfl) (by kernel_rfl) (by kernel_rfl) (fun _ _ _ h => h) (Or.inl ⟨by rfl, ?_⟩) (by assumption) ?_
        rotate_left
        · (intro w hSw; (try dsimp only at hSw); go_simp); try with_reducible rfl
        try simp only [Act.put, List.setIfInBounds_toArray, List.set_cons_zero, List.set_cons_succ]
        refine wpAnyH_take (i := 4) (oi := { dst := some 19, op := Go.Op.indexAddr 22 (Go.Operand.tmp 17) (Go.Operand.tmp 18), type := 0, pos := "ref.go:41", after := #[{ on := 2, ground := Go.Ground.data }, { on := 3, ground := Go.Ground.data }], guard := none }) (v := ?_) rfl (by kernel_rfl) (by kernel_rfl) (by kernel_rfl) (fun _ _ _ h => h) (Or.inl ⟨by rfl, ?_⟩) (by assumption) ?_
        rotate_left
        · (intro w hSw; (try dsimp only at hSw); go_simp); try with_reducible rfl
        try simp only [Act.put, List.setIfInBounds_toArray, List.set_cons_zero, List.set_cons_succ]
        refine wpAnyH_take (i := 5) (oi := { dst := some 20, op := Go.Op.load 25 (Go.Operand.tmp 19), type := 25, pos := "ref.go:41", after := #[{ on := 4, ground := Go.Ground.data }], guard := none }) (v := ?_) rfl (by kernel_rfl) (by kernel_rfl) (by kernel_rfl) (fun _ _ _ h => h) (Or.inl ⟨by rfl, ?_⟩) (by assumption) ?_
        rotate_left
        · (intro w hSw; (try dsimp only at hSw); go_simp); try with_reducible rfl
        try simp only [Act.put, List.setIfInBounds_toArray, List.set_cons_zero, List.set_cons_succ]
        refine wpAnyH_ready (rs := [6]) (by kernel_rfl) (by simp) ?_
        refine (AllReadyH.cons (o := { dst := some 21, op := Go.Op.call { callee := Go.Callee.value (Go.Operand.func 42), args := #[Go.Operand.tmp 15, Go.Operand.tmp 16, Go.Operand.tmp 20], argTypes := #[23, 25, 25] }, type := 4, pos := "ref.go:41", after := #[{ on := 0, ground := Go.Ground.data }, { on := 1, ground := Go.Ground.data }, { on := 5, ground := Go.Ground.data }], guard := none }) rfl (fun K0 hK => ?_) AllReadyH.nil)
        have hbq9 := Ph12.bel (g := g) (b := b1) (i := o1 + k * 3) (p := p) (u := u) (w0 := wr) hHeld
        go_simp
        go_at_call 42
        with_reducible refine Calls.mono (HRU.out _ hbq9) ?_
        rintro e w96 ⟨rfl, hb⟩
        try go_wp2_with fail
        refine hK.out _ _ (Ph12.go (g := g) (b := b1) (i := o1 + k * 3) (p := p) (u := u) (w0 := wr) (by assumption) hb) (fun hHeld2 => ?_)
        clear hK K0 hHeld hb hbq9
        have hHeld := hHeld2; clear hHeld2
        try simp only [Act.put, List.setIfInBounds_toArray, List.set_cons_zero, List.set_cons_succ]
        refine wpAnyH_take (i := 7) (oi := { dst := some 22, op := Go.Op.unOp Go.UnOp.not 4 (Go.Operand.tmp 21), type := 4, pos := "ref.go:41", after := #[{ on := 6, ground := Go.Ground.data }], guard := none }) (v := ?_) rfl (by kernel_rfl) (by kernel_rfl) (by kernel_rfl) (fun _ _ _ h => h) (Or.inl ⟨by rfl, ?_⟩) (by assumption) ?_
        rotate_left
        · (intro w hSw; (try dsimp only at hSw); go_simp); try with_reducible rfl
        try simp only [Act.put, List.setIfInBounds_toArray, List.set_cons_zero, List.set_cons_succ]
        refine wpAnyH_done (by kernel_rfl) ?_ _
        have HZB := Lib.hid (HB.out.trans ((Ph12.bel (g := g) (b := b1) (i := o1 + k * 3) (p := p) (u := u) (w0 := wr) hHeld).mono HB.out.size))
        have HZP := Lib.hid (HP.out.go (Ph12.bel (g := g) (b := b1) (i := o1 + k * 3) (p := p) (u := u) (w0 := wr) hHeld))
        clear hHeld
        go_wp2_with fail
        go_roundw
        case rel => exact ⟨k + 1, X, by omega, by go_num, by rw [hadd], HNM, HZP, HZB⟩
        case measure => simp [intOf]; omega
    · obtain rfl : k = T.length := by omega
      have HZ : Hid (M = Q) := Lib.hid (by rw [HQQ.out, HM.out, List.take_length])
      go_wp2_with fail
      go_ret
      exact ⟨by rw [HZ.out]; rfl, HB.out⟩

/-! ### Mask, Hours -/
set_option maxHeartbeats 16000000 in
theorem hMask_any (A : Option Addr) (cap : Nat) (T : List V3) (B : Option Addr) (cb : Nat) (S : List Sl) (p : V3) (w : World) (h1 : TbRow w A T) (hT : T.length ≤ 9223372036854775807) (h2 : SIn w B cb S) :
    Calls Try.prog 12 #[.slice A T.length cap, .slice B S.length cb, .agg #[.int .i64 p.x, .int .i64 p.y, .int .i64 p.z]] w (InIs (mskI T S p) w) := by
  obtain ⟨w0, hw0⟩ : ∃ w0, w0 = w.alloc (.cells #[.int .i64 p.x, .int .i64 p.y, .int .i64 p.z] 25) := ⟨_, rfl⟩
  have HB0 : Hid (Below w.heap.size w w0) := Lib.hid (by rw [hw0]; exact (Below.refl _ _).alloc (Nat.le_refl _) _)
  have HP0 : Hid (P3At w0 w.heap.size p) := Lib.hid (by rw [hw0]; exact P3At.new w p)
  have HW0 := Lib.hid hw0
  clear hw0
  have HM := Lib.hid (fun w' (hb : Below w.heap.size w w') => hmay_any A cap T B cb S p w' (h1.below hb) hT (h2.below hb))
  by_cases cm : mayB T S p = true
  case neg =>
    rw [Bool.not_eq_true] at cm
    rw [show mskI T S p = 0 from if_neg (fun h => by rw [(mayB_iff T S p).2 ⟨h.1, h.2.2, h.2.1⟩] at cm; cases cm)]
    rw [cm] at HM
    clear h1 h2 hT cm
    go_enter Try.func12, Try.ntmps12
    go_upto_region 1 with fail
    rw [← HW0.out]; clear HW0
    obtain ⟨g, hg⟩ : ∃ g, g = w.heap.size := ⟨_, rfl⟩
    rw [← hg] at HP0
    simp only [← hg]
    clear hg
    have p0 := HP0.out.c0; have p1 := HP0.out.c1; have p2 := HP0.out.c2; have pl := HP0.out.lt
    go_wp2_with fail
    with_reducible refine Calls.mono (HM.out _ HB0.out) ?_
    rintro e w1 ⟨rfl, hb⟩
    have HB1 := Lib.hid (HB0.out.trans (hb.mono HB0.out.size))
    clear hb HB0 HP0 p0 p1 p2 pl HM
    go_wp2_with fail
    go_ret
    exact ⟨rfl, HB1.out⟩
  case pos =>
    obtain ⟨m1, m2, m3⟩ := (mayB_iff T S p).1 cm
    have HK := Lib.hid (fun w' (hb : Below w.heap.size w w') => hmask_any A cap T B cb S p w' (h1.below hb) m1.2 (h2.below hb))
    rw [mskI_yes m1 m3 m2]
    rw [cm] at HM
    generalize ((mskN (frB S p T) : Nat) : Int) = R at *
    clear h1 h2 hT cm m1 m2 m3
    go_enter Try.func12, Try.ntmps12
    go_upto_region 1 with fail
    rw [← HW0.out]; clear HW0
    obtain ⟨g, hg⟩ : ∃ g, g = w.heap.size := ⟨_, rfl⟩
    rw [← hg] at HP0
    simp only [← hg]
    clear hg
    have p0 := HP0.out.c0; have p1 := HP0.out.c1; have p2 := HP0.out.c2; have pl := HP0.out.lt
    go_wp2_with fail
    with_reducible refine Calls.mono (HM.out _ HB0.out) ?_
    rintro e w1 ⟨rfl, hb⟩
    have HB1 := Lib.hid (HB0.out.trans (hb.mono HB0.out.size))
    have HP1 := Lib.hid (HP0.out.go hb)
    clear hb HB0 HP0 p0 p1 p2 pl HM
    have p0 := HP1.out.c0; have p1 := HP1.out.c1; have p2 := HP1.out.c2; have pl := HP1.out.lt
    go_wp2_with fail
    with_reducible refine Calls.mono (HK.out _ HB1.out) ?_
    rintro e w2 ⟨rfl, hb⟩
    have HB2 := Lib.hid (HB1.out.trans (hb.mono HB1.out.size))
    clear hb HB1 HP1 p0 p1 p2 pl HK
    go_wp2_with fail
    go_ret
    exact ⟨rfl, HB2.out⟩
set_option maxHeartbeats 4000000 in
theorem hhours_any (A : Option Addr) (cap : Nat) (T : List V3) (B : Option Addr) (cb : Nat) (S : List Sl) (p : V3) (w : World) (h1 : TbRow w A T) (hT : T.length ≤ 9223372036854775807) (h2 : SIn w B cb S) :
    Calls Try.prog 14 #[.slice A T.length cap, .slice B S.length cb, .agg #[.int .i64 p.x, .int .i64 p.y, .int .i64 p.z]] w (InIs (cntI (mskI T S p)) w) := by
  obtain ⟨w0, hw0⟩ : ∃ w0, w0 = w.alloc (.cells #[.int .i64 p.x, .int .i64 p.y, .int .i64 p.z] 25) := ⟨_, rfl⟩
  have HB0 : Hid (Below w.heap.size w w0) := Lib.hid (by rw [hw0]; exact (Below.refl _ _).alloc (Nat.le_refl _) _)
  have HP0 : Hid (P3At w0 w.heap.size p) := Lib.hid (by rw [hw0]; exact P3At.new w p)
  have HW0 := Lib.hid hw0
  clear hw0
  have HM := Lib.hid (fun w' (hb : Below w.heap.size w w') => hMask_any A cap T B cb S p w' (h1.below hb) hT (h2.below hb))
  obtain ⟨m, hm, _⟩ := mskI_nat T S p
  rw [hm] at HM ⊢
  have HC := Lib.hid (fun w' => hcount_any (m : Int) w')
  generalize cntI (m : Int) = R at *
  clear h1 h2 hT hm
  go_enter Try.func14, Try.ntmps14
  go_upto_region 1 with fail
  rw [← HW0.out]; clear HW0
  obtain ⟨g, hg⟩ : ∃ g, g = w.heap.size := ⟨_, rfl⟩
  rw [← hg] at HP0
  simp only [← hg]
  clear hg
  have p0 := HP0.out.c0; have p1 := HP0.out.c1; have p2 := HP0.out.c2; have pl := HP0.out.lt
  go_wp2_with fail
  with_reducible refine Calls.mono (HM.out _ HB0.out) ?_
  rintro e w1 ⟨rfl, hb⟩
  have HB1 := Lib.hid (HB0.out.trans (hb.mono HB0.out.size))
  clear hb HB0 HP0 p0 p1 p2 pl HM
  go_wp2_with fail
  with_reducible refine Calls.mono (HC.out _) ?_
  rintro e w2 ⟨rfl, hb⟩
  have HB2 := Lib.hid (HB1.out.trans (hb.mono HB1.out.size))
  clear hb HB1 HC
  go_wp2_with fail
  go_ret
  exact ⟨rfl, HB2.out⟩
/-! ### Lost -/
theorem lost_sub (T : List V3) (a b : List Sl) (p : V3) (h : T.length ≤ 24) : bits .and .i64 ((mskN (frB a p T) : Nat) : Int) ((mskN (frB b p T) : Nat) : Int) = ((mskN (both2 (frB a p T) (frB b p T)) : Nat) : Int) := by
  have la := mskN_lt24 (lb := frB a p T) (by rw [frB_len]; exact h)
  have lb := mskN_lt24 (lb := frB b p T) (by rw [frB_len]; exact h)
  rw [i64_and_nat _ _ (by omega) (by omega), mskN_and]; rfl

set_option maxHeartbeats 16000000 in
theorem hlost_any (A : Option Addr) (cap : Nat) (T : List V3) (B : Option Addr) (cb : Nat) (S : List Sl) (B2 : Option Addr) (cb2 : Nat) (S2 : List Sl) (p : V3) (w : World) (h1 : TbRow w A T) (hT : T.length ≤ 9223372036854775807) (h2 : SIn w B cb S) (h3 : SIn w B2 cb2 S2) :
    Calls Try.prog 18 #[.slice A T.length cap, .slice B S.length cb, .slice B2 S2.length cb2, .agg #[.int .i64 p.x, .int .i64 p.y, .int .i64 p.z]] w (InIs (lostI T S S2 p) w) := by
  obtain ⟨w0, hw0⟩ : ∃ w0, w0 = w.alloc (.cells #[.int .i64 p.x, .int .i64 p.y, .int .i64 p.z] 25) := ⟨_, rfl⟩
  have HB0 : Hid (Below w.heap.size w w0) := Lib.hid (by rw [hw0]; exact (Below.refl _ _).alloc (Nat.le_refl _) _)
  have HP0 : Hid (P3At w0 w.heap.size p) := Lib.hid (by rw [hw0]; exact P3At.new w p)
  have HW0 := Lib.hid hw0
  clear hw0
  have HM := Lib.hid (fun w' (hb : Below w.heap.size w w') => hmay_any A cap T B cb S p w' (h1.below hb) hT (h2.below hb))
  by_cases cm : mayB T S p = true
  case neg =>
    rw [Bool.not_eq_true] at cm
    rw [show lostI T S S2 p = 0 from if_neg (fun h => by rw [(mayB_iff T S p).2 ⟨h.1, h.2.2.1, h.2.1⟩] at cm; cases cm)]
    rw [cm] at HM
    clear h1 h2 h3 hT cm
    go_enter Try.func18, Try.ntmps18
    go_upto_region 1 with fail
    rw [← HW0.out]; clear HW0
    obtain ⟨g, hg⟩ : ∃ g, g = w.heap.size := ⟨_, rfl⟩
    rw [← hg] at HP0
    simp only [← hg]
    clear hg
    have p0 := HP0.out.c0; have p1 := HP0.out.c1; have p2 := HP0.out.c2; have pl := HP0.out.lt
    go_wp2_with fail
    with_reducible refine Calls.mono (HM.out _ HB0.out) ?_
    rintro e w1 ⟨rfl, hb⟩
    have HB1 := Lib.hid (HB0.out.trans (hb.mono HB0.out.size))
    clear hb HB0 HP0 p0 p1 p2 pl HM
    go_wp2_with fail
    go_ret
    exact ⟨rfl, HB1.out⟩
  case pos =>
    obtain ⟨m1, m2, m3⟩ := (mayB_iff T S p).1 cm
    rw [cm] at HM
    by_cases cs : SolP S2
    case neg =>
      have HR := Lib.hid (fun w' (hb : Below w.heap.size w w') => dright_no (h3.below hb) cs)
      rw [show lostI T S S2 p = 0 from if_neg (fun h => cs h.2.2.2)]
      clear h1 h2 h3 hT cm m1 m2 m3 cs
      go_enter Try.func18, Try.ntmps18
      go_upto_region 1 with fail
      rw [← HW0.out]; clear HW0
      obtain ⟨g, hg⟩ : ∃ g, g = w.heap.size := ⟨_, rfl⟩
      rw [← hg] at HP0
      simp only [← hg]
      clear hg
      have p0 := HP0.out.c0; have p1 := HP0.out.c1; have p2 := HP0.out.c2; have pl := HP0.out.lt
      go_wp2_with fail
      with_reducible refine Calls.mono (HM.out _ HB0.out) ?_
      rintro e w1 ⟨rfl, hb⟩
      have HB1 := Lib.hid (HB0.out.trans (hb.mono HB0.out.size))
      have HP1 := Lib.hid (HP0.out.go hb)
      clear hb HB0 HP0 p0 p1 p2 pl HM
      have p0 := HP1.out.c0; have p1 := HP1.out.c1; have p2 := HP1.out.c2; have pl := HP1.out.lt
      go_wp2_with fail
      with_reducible refine Calls.mono (HR.out _ HB1.out) ?_
      rintro e w2 ⟨rfl, hb⟩
      have HB2 := Lib.hid (HB1.out.trans (hb.mono HB1.out.size))
      clear hb HB1 HP1 p0 p1 p2 pl HR
      go_wp2_with fail
      go_ret
      exact ⟨rfl, HB2.out⟩
    case pos =>
      have HR := Lib.hid (fun w' (hb : Below w.heap.size w w') => dright_yes (h3.below hb) cs)
      have HK1 := Lib.hid (fun w' (hb : Below w.heap.size w w') => hmask_any A cap T B cb S p w' (h1.below hb) m1.2 (h2.below hb))
      have HK2 := Lib.hid (fun w' (hb : Below w.heap.size w w') => hmask_any A cap T B2 cb2 S2 p w' (h1.below hb) m1.2 (h3.below hb))
      rw [show lostI T S S2 p = ((mskN (minus2 (frB S p T) (frB S2 p T)) : Nat) : Int) from if_pos ⟨m1, m3, m2, cs⟩]
      have hand := lost_sub T S S2 p m1.2
      have hsp := mskN_split (la := frB S p T) (lb := frB S2 p T) (by rw [frB_len, frB_len])
      have hlt := mskN_lt24 (lb := frB S p T) (by rw [frB_len]; exact m1.2)
      have hsub : IntKind.i64.wrap (((mskN (frB S p T) : Nat) : Int) - ((mskN (both2 (frB S p T) (frB S2 p T)) : Nat) : Int)) = ((mskN (minus2 (frB S p T) (frB S2 p T)) : Nat) : Int) := by
        unfold both2 minus2
        rw [IntWalk.i64_in _ (by omega)]; omega
      have hr0 : (0 : Int) ≤ ((mskN (both2 (frB S p T) (frB S2 p T)) : Nat) : Int) ∧ ((mskN (both2 (frB S p T) (frB S2 p T)) : Nat) : Int) ≤ ((mskN (frB S p T) : Nat) : Int) ∧ ((mskN (frB S p T) : Nat) : Int) ≤ 16777217 := by unfold both2; omega
      generalize ((mskN (minus2 (frB S p T) (frB S2 p T)) : Nat) : Int) = R at *
      generalize ((mskN (both2 (frB S p T) (frB S2 p T)) : Nat) : Int) = M3 at *
      clear hsp hlt
      generalize ((mskN (frB S p T) : Nat) : Int) = M1 at *
      generalize ((mskN (frB S2 p T) : Nat) : Int) = M2 at *
      obtain ⟨z0, z1, z2⟩ := hr0
      have hsub2 : M1 - M3 = R := by rw [IntWalk.i64_in _ (by omega)] at hsub; exact hsub
      have hwR : IntKind.i64.wrap R = R := by rw [← hsub2]; exact IntWalk.i64_in _ (by omega)
      clear h1 h2 h3 hT cm m1 m2 m3 cs hsub
      go_enter Try.func18, Try.ntmps18
      go_upto_region 1 with fail
      rw [← HW0.out]; clear HW0
      obtain ⟨g, hg⟩ : ∃ g, g = w.heap.size := ⟨_, rfl⟩
      rw [← hg] at HP0
      simp only [← hg]
      clear hg
      have p0 := HP0.out.c0; have p1 := HP0.out.c1; have p2 := HP0.out.c2; have pl := HP0.out.lt
      go_wp2_with fail
      with_reducible refine Calls.mono (HM.out _ HB0.out) ?_
      rintro e w1 ⟨rfl, hb⟩
      have HB1 := Lib.hid (HB0.out.trans (hb.mono HB0.out.size))
      have HP1 := Lib.hid (HP0.out.go hb)
      clear hb HB0 HP0 p0 p1 p2 pl HM
      have p0 := HP1.out.c0; have p1 := HP1.out.c1; have p2 := HP1.out.c2; have pl := HP1.out.lt
      go_wp2_with fail
      with_reducible refine Calls.mono (HR.out _ HB1.out) ?_
      rintro e w2 ⟨rfl, hb⟩
      have HB2 := Lib.hid (HB1.out.trans (hb.mono HB1.out.size))
      have HP2 := Lib.hid (HP1.out.go hb)
      clear hb HB1 HP1 p0 p1 p2 pl HR
      go_upto_region 3 with fail
      have E5 := Lib.hid (Pg12.of HP2.out)
      have G1 := Lib.hid (fun w' (hh : Below w2.heap.size w2 w') => HK1.out w' (HB2.out.trans (hh.mono HB2.out.size)))
      have G2 := Lib.hid (fun w' (hh : Below w2.heap.size w2 w') => HK2.out w' (HB2.out.trans (hh.mono HB2.out.size)))
      obtain ⟨x0, x1, x2, l0, _⟩ := E5.out
      clear HK1 HK2 HP2
      refine wp_region_held_drew (S := (fun w' => w'.cell? ⟨g, 0, none⟩ = some (.int .i64 p.x) ∧ w'.cell? ⟨g, 1, none⟩ = some (.int .i64 p.y) ∧ w'.cell? ⟨g, 2, none⟩ = some (.int .i64 p.z) ∧ g < w'.heap.size ∧ Hid (Below w2.heap.size w2 w'))) (by kernel_rfl) ?_ (fun hHeld => ?_)
      · exact Pg12.drewN E5.out 1
      refine wpAnyH_take (i := 0) (oi := { dst := some 19, op := Go.Op.move (Go.Operand.tmp 0), type := 22, pos := "ref.go:79", after := #[], guard := none }) (v := ?_) rfl (by kernel_rfl) (by kernel_rfl) (by kernel_rfl) (fun _ _ _ h => h) (Or.inl ⟨by rfl, ?_⟩) (by assumption) ?_
      rotate_left
      · (intro w hSw; (try dsimp only at hSw); go_simp); try with_reducible rfl
      try simp only [Act.put, List.setIfInBounds_toArray, List.set_cons_zero, List.set_cons_succ]
      refine wpAnyH_take (i := 1) (oi := { dst := some 20, op := Go.Op.move (Go.Operand.tmp 1), type := 23, pos := "ref.go:79", after := #[], guard := none }) (v := ?_) rfl (by kernel_rfl) (by kernel_rfl) (by kernel_rfl) (fun _ _ _ h => h) (Or.inl ⟨by rfl, ?_⟩) (by assumption) ?_
      rotate_left
      · (intro w hSw; (try dsimp only at hSw); go_simp); try with_reducible rfl
      try simp only [Act.put, List.setIfInBounds_toArray, List.set_cons_zero, List.set_cons_succ]
      refine wpAnyH_take (i := 2) (oi := { dst := some 21, op := Go.Op.load 25 (Go.Operand.tmp 7), type := 25, pos := "ref.go:79", after := #[], guard := none }) (v := ?_) rfl (by kernel_rfl) (by kernel_rfl) (by kernel_rfl) (fun _ _ _ h => h) (Or.inl ⟨by rfl, ?_⟩) (by assumption) ?_
      rotate_left
      · (intro w hSw; (try dsimp only at hSw); go_simp); try with_reducible rfl
      try simp only [Act.put, List.setIfInBounds_toArray, List.set_cons_zero, List.set_cons_succ]
      refine wpAnyH_take (i := 4) (oi := { dst := some 23, op := Go.Op.move (Go.Operand.tmp 0), type := 22, pos := "ref.go:79", after := #[], guard := none }) (v := ?_) rfl (by kernel_rfl) (by kernel_rfl) (by kernel_rfl) (fun _ _ _ h => h) (Or.inl ⟨by rfl, ?_⟩) (by assumption) ?_
      rotate_left
      · (intro w hSw; (try dsimp only at hSw); go_simp); try with_reducible rfl
      try simp only [Act.put, List.setIfInBounds_toArray, List.set_cons_zero, List.set_cons_succ]
      refine wpAnyH_take (i := 5) (oi := { dst := some 24, op := Go.Op.move (Go.Operand.tmp 1), type := 23, pos := "ref.go:79", after := #[], guard := none }) (v := ?_) rfl (by kernel_rfl) (by kernel_rfl) (by kernel_rfl) (fun _ _ _ h => h) (Or.inl ⟨by rfl, ?_⟩) (by assumption) ?_
      rotate_left
      · (intro w hSw; (try dsimp only at hSw); go_simp); try with_reducible rfl
      try simp only [Act.put, List.setIfInBounds_toArray, List.set_cons_zero, List.set_cons_succ]
      refine wpAnyH_take (i := 6) (oi := { dst := some 25, op := Go.Op.load 25 (Go.Operand.tmp 7), type := 25, pos := "ref.go:79", after := #[], guard := none }) (v := ?_) rfl (by kernel_rfl) (by kernel_rfl) (by kernel_rfl) (fun _ _ _ h => h) (Or.inl ⟨by rfl, ?_⟩) (by assumption) ?_
      rotate_left
      · (intro w hSw; (try dsimp only at hSw); go_simp); try with_reducible rfl
      try simp only [Act.put, List.setIfInBounds_toArray, List.set_cons_zero, List.set_cons_succ]
      refine wpAnyH_take (i := 8) (oi := { dst := some 27, op := Go.Op.move (Go.Operand.tmp 0), type := 22, pos := "ref.go:79", after := #[], guard := none }) (v := ?_) rfl (by kernel_rfl) (by kernel_rfl) (by kernel_rfl) (fun _ _ _ h => h) (Or.inl ⟨by rfl, ?_⟩) (by assumption) ?_
      rotate_left
      · (intro w hSw; (try dsimp only at hSw); go_simp); try with_reducible rfl
      try simp only [Act.put, List.setIfInBounds_toArray, List.set_cons_zero, List.set_cons_succ]
      refine wpAnyH_take (i := 9) (oi := { dst := some 28, op := Go.Op.move (Go.Operand.tmp 2), type := 23, pos := "ref.go:79", after := #[], guard := none }) (v := ?_) rfl (by kernel_rfl) (by kernel_rfl) (by kernel_rfl) (fun _ _ _ h => h) (Or.inl ⟨by rfl, ?_⟩) (by assumption) ?_
      rotate_left
      · (intro w hSw; (try dsimp only at hSw); go_simp); try with_reducible rfl
      try simp only [Act.put, List.setIfInBounds_toArray, List.set_cons_zero, List.set_cons_succ]
      refine wpAnyH_take (i := 10) (oi := { dst := some 29, op := Go.Op.load 25 (Go.Operand.tmp 7), type := 25, pos := "ref.go:79", after := #[], guard := none }) (v := ?_) rfl (by kernel_rfl) (by kernel_rfl) (by kernel_rfl) (fun _ _ _ h => h) (Or.inl ⟨by rfl, ?_⟩) (by assumption) ?_
      rotate_left
      · (intro w hSw; (try dsimp only at hSw); go_simp); try with_reducible rfl
      try simp only [Act.put, List.setIfInBounds_toArray, List.set_cons_zero, List.set_cons_succ]
      refine wpAnyH_ready (rs := [3]) (by kernel_rfl) (by simp) ?_
      refine (AllReadyH.cons (o := { dst := some 22, op := Go.Op.call { callee := Go.Callee.value (Go.Operand.func 26), args := #[Go.Operand.tmp 19, Go.Operand.tmp 20, Go.Operand.tmp 21], argTypes := #[22, 23, 25] }, type := 3, pos := "ref.go:79", after := #[{ on := 0, ground := Go.Ground.data }, { on := 1, ground := Go.Ground.data }, { on := 2, ground := Go.Ground.data }], guard := none }) rfl (fun K0 hK => ?_) AllReadyH.nil)
      have hbq9 := Pg12.bel (g := g) (p := p) (w0 := w2) hHeld
      go_simp
      go_at_call 26
      with_reducible refine Calls.mono (G1.out _ hbq9) ?_
      rintro e w93 ⟨rfl, hb⟩
      try go_wp2_with fail
      refine hK.out _ _ (Pg12.go (g := g) (p := p) (w0 := w2) (by assumption) hb) (fun hHeld2 => ?_)
      clear hK K0 hHeld hb hbq9
      have hHeld := hHeld2; clear hHeld2
      try simp only [Act.put, List.setIfInBounds_toArray, List.set_cons_zero, List.set_cons_succ]
      refine wpAnyH_ready (rs := [7]) (by kernel_rfl) (by simp) ?_
      refine (AllReadyH.cons (o := { dst := some 26, op := Go.Op.call { callee := Go.Callee.value (Go.Operand.func 26), args := #[Go.Operand.tmp 23, Go.Operand.tmp 24, Go.Operand.tmp 25], argTypes := #[22, 23, 25] }, type := 3, pos := "ref.go:79", after := #[{ on := 4, ground := Go.Ground.data }, { on := 5, ground := Go.Ground.data }, { on := 6, ground := Go.Ground.data }, { on := 3, ground := Go.Ground.chain }], guard := none }) rfl (fun K1 hK => ?_) AllReadyH.nil)
      have hbq9 := Pg12.bel (g := g) (p := p) (w0 := w2) hHeld
      go_simp
      go_at_call 26
      with_reducible refine Calls.mono (G1.out _ hbq9) ?_
      rintro e w97 ⟨rfl, hb⟩
      try go_wp2_with fail
      refine hK.out _ _ (Pg12.go (g := g) (p := p) (w0 := w2) (by assumption) hb) (fun hHeld2 => ?_)
      clear hK K1 hHeld hb hbq9
      have hHeld := hHeld2; clear hHeld2
      try simp only [Act.put, List.setIfInBounds_toArray, List.set_cons_zero, List.set_cons_succ]
      refine wpAnyH_ready (rs := [11]) (by kernel_rfl) (by simp) ?_
      refine (AllReadyH.cons (o := { dst := some 30, op := Go.Op.call { callee := Go.Callee.value (Go.Operand.func 26), args := #[Go.Operand.tmp 27, Go.Operand.tmp 28, Go.Operand.tmp 29], argTypes := #[22, 23, 25] }, type := 3, pos := "ref.go:79", after := #[{ on := 8, ground := Go.Ground.data }, { on := 9, ground := Go.Ground.data }, { on := 10, ground := Go.Ground.data }, { on := 7, ground := Go.Ground.chain }], guard := none }) rfl (fun K2 hK => ?_) AllReadyH.nil)
      have hbq9 := Pg12.bel (g := g) (p := p) (w0 := w2) hHeld
      go_simp
      go_at_call 26
      with_reducible refine Calls.mono (G2.out _ hbq9) ?_
      rintro e w911 ⟨rfl, hb⟩
      try go_wp2_with fail
      refine hK.out _ _ (Pg12.go (g := g) (p := p) (w0 := w2) (by assumption) hb) (fun hHeld2 => ?_)
      clear hK K2 hHeld hb hbq9
      have hHeld := hHeld2; clear hHeld2
      try simp only [Act.put, List.setIfInBounds_toArray, List.set_cons_zero, List.set_cons_succ]
      refine wpAnyH_take (i := 12) (oi := { dst := some 31, op := Go.Op.binOp Go.BinOp.and 3 (Go.Operand.tmp 26) (Go.Operand.tmp 30) 3, type := 3, pos := "ref.go:79", after := #[{ on := 7, ground := Go.Ground.data }, { on := 11, ground := Go.Ground.data }], guard := none }) (v := ?_) rfl (by kernel_rfl) (by kernel_rfl) (by kernel_rfl) (fun _ _ _ h => h) (Or.inl ⟨by rfl, ?_⟩) (by assumption) ?_
      rotate_left
      · (intro w hSw; (try dsimp only at hSw); go_simp); try with_reducible rfl
      try simp only [Act.put, List.setIfInBounds_toArray, List.set_cons_zero, List.set_cons_succ]
      refine wpAnyH_take (i := 13) (oi := { dst := some 32, op := Go.Op.binOp Go.BinOp.sub 3 (Go.Operand.tmp 22) (Go.Operand.tmp 31) 3, type := 3, pos := "ref.go:79", after := #[{ on := 3, ground := Go.Ground.data }, { on := 12, ground := Go.Ground.data }], guard := none }) (v := ?_) rfl (by kernel_rfl) (by kernel_rfl) (by kernel_rfl) (fun _ _ _ h => h) (Or.inl ⟨by rfl, ?_⟩) (by assumption) ?_
      rotate_left
      · (intro w hSw; (try dsimp only at hSw); go_simp); try with_reducible rfl
      try simp only [Act.put, List.setIfInBounds_toArray, List.set_cons_zero, List.set_cons_succ]
      refine wpAnyH_take (i := 14) (oi := { dst := some 8, op := Go.Op.assign (Go.Operand.tmp 32), type := 3, pos := "ref.go:79", after := #[{ on := 13, ground := Go.Ground.data }, { on := 11, ground := Go.Ground.chain }, { on := 0, ground := Go.Ground.phase }, { on := 1, ground := Go.Ground.phase }, { on := 2, ground := Go.Ground.phase }, { on := 3, ground := Go.Ground.phase }, { on := 4, ground := Go.Ground.phase }, { on := 5, ground := Go.Ground.phase }, { on := 6, ground := Go.Ground.phase }, { on := 7, ground := Go.Ground.phase }, { on := 8, ground := Go.Ground.phase }, { on := 9, ground := Go.Ground.phase }, { on := 10, ground := Go.Ground.phase }, { on := 11, ground := Go.Ground.phase }, { on := 12, ground := Go.Ground.phase }, { on := 13, ground := Go.Ground.phase }], guard := none }) (v := ?_) rfl (by kernel_rfl) (by kernel_rfl) (by kernel_rfl) (fun _ _ _ h => h) (Or.inl ⟨by rfl, ?_⟩) (by assumption) ?_
      rotate_left
      · (intro w hSw; (try dsimp only at hSw); go_simp); try with_reducible rfl
      try simp only [Act.put, List.setIfInBounds_toArray, List.set_cons_zero, List.set_cons_succ]
      refine wpAnyH_done (by kernel_rfl) ?_ _
      have HZ := Lib.hid (HB2.out.trans ((Pg12.bel (g := g) (p := p) (w0 := w2) hHeld).mono HB2.out.size))
      clear hHeld
      go_wp2_with fail
      go_ret
      exact ⟨rfl, HZ.out⟩

/-! ### MaskOf -/
/-- what a region reads: a point, a solid. -/
def Pi12 (g b i : Nat) (p : V3) (A : Option Addr) (n c : Nat) (w0 w' : World) : Prop := w'.cell? ⟨g, 0, none⟩ = some (.int .i64 p.x) ∧ w'.cell? ⟨g, 1, none⟩ = some (.int .i64 p.y) ∧ w'.cell? ⟨g, 2, none⟩ = some (.int .i64 p.z) ∧ w'.cell? ⟨b, i, none⟩ = some (.slice A n c) ∧ g < w'.heap.size ∧ b < w'.heap.size ∧ Hid (Below w0.heap.size w0 w')
theorem Pi12.bel {g b i : Nat} {p : V3} {A : Option Addr} {n c : Nat} {w0 w : World} (h : Pi12 g b i p A n c w0 w) : Below w0.heap.size w0 w := h.2.2.2.2.2.2.out
theorem Pi12.go {g b i : Nat} {p : V3} {A : Option Addr} {n c : Nat} {w0 w w' : World} (h : Pi12 g b i p A n c w0 w) (hb : Below w.heap.size w w') : Pi12 g b i p A n c w0 w' := by
  obtain ⟨a0, a1, a2, b0, l0, l1, h8⟩ := h
  have x := fun k => hb.cell (p := ⟨g, k, none⟩) l0
  exact ⟨(x _).trans a0, (x _).trans a1, (x _).trans a2, (hb.cell (p := ⟨b, i, none⟩) l1).trans b0, Nat.lt_of_lt_of_le l0 hb.size, Nat.lt_of_lt_of_le l1 hb.size, Lib.hid (h8.out.trans (hb.mono h8.out.size))⟩
theorem Pi12.drewN {g b i : Nat} {p : V3} {A : Option Addr} {n c : Nat} {w0 w : World} (h : Pi12 g b i p A n c w0 w) (k : Nat) : Pi12 g b i p A n c w0 (w.drewN k) := h.go (below_drewN (Below.refl _ _) k)
set_option maxHeartbeats 16000000 in
theorem hmaskOf_any (A : Option Addr) (cap : Nat) (T : List V3) (B : Option Addr) (cb : Nat) (L : List (List Sl)) (p : V3) (w : World) (h1 : TbRow w A T) (hT : T.length ≤ 9223372036854775807) (h2 : SsRow w B L) (hL : L.length ≤ 9223372036854775807) :
    Calls Try.prog 16 #[.slice A T.length cap, .slice B L.length cb, .agg #[.int .i64 p.x, .int .i64 p.y, .int .i64 p.z]] w (InIs (mofI T L p) w) := by
  obtain ⟨w0, hw0⟩ : ∃ w0, w0 = w.alloc (.cells #[.int .i64 p.x, .int .i64 p.y, .int .i64 p.z] 25) := ⟨_, rfl⟩
  have HB0 : Hid (Below w.heap.size w w0) := Lib.hid (by rw [hw0]; exact (Below.refl _ _).alloc (Nat.le_refl _) _)
  have HP0 : Hid (P3At w0 w.heap.size p) := Lib.hid (by rw [hw0]; exact P3At.new w p)
  have HW0 := Lib.hid hw0
  clear hw0
  have H2 := Lib.hid h2
  have HM : Hid (∀ w', Below w.heap.size w w' → Calls Try.prog 25 #[.slice A T.length cap, .slice none 0 0, .agg #[.int .i64 p.x, .int .i64 p.y, .int .i64 p.z]] w' (BlIs (mayB T [] p) w')) := Lib.hid (fun w' hb => hmay_any A cap T none 0 [] p w' (h1.below hb) hT (SIn.nil w'))
  obtain ⟨R, hR⟩ : ∃ R, R = mofI T L p := ⟨_, rfl⟩
  rw [← hR]
  have HRES := Lib.hid hR; clear hR
  by_cases cm : mayB T [] p = true
  case neg =>
    rw [Bool.not_eq_true] at cm
    have HQ : Hid (R = 0) := Lib.hid (by rw [HRES.out]; exact if_neg (fun h => by rw [(mayB_iff T [] p).2 ⟨h.1, solP_nil, h.2.1⟩] at cm; cases cm))
    rw [cm] at HM
    clear h1 h2 hT cm HRES H2
    go_enter Try.func16, Try.ntmps16
    go_upto_region 1 with fail
    rw [← HW0.out]; clear HW0
    obtain ⟨g, hg⟩ : ∃ g, g = w.heap.size := ⟨_, rfl⟩
    rw [← hg] at HP0
    simp only [← hg]
    clear hg
    have p0 := HP0.out.c0; have p1 := HP0.out.c1; have p2 := HP0.out.c2; have pl := HP0.out.lt
    go_wp2_with fail
    with_reducible refine Calls.mono (HM.out _ HB0.out) ?_
    rintro e w1 ⟨rfl, hb⟩
    have HB1 := Lib.hid (HB0.out.trans (hb.mono HB0.out.size))
    clear hb HB0 HP0 p0 p1 p2 pl HM
    go_wp2_with fail
    go_ret
    exact ⟨by rw [HQ.out]; rfl, HB1.out⟩
  case pos =>
    obtain ⟨m1, _, m3⟩ := (mayB_iff T [] p).1 cm
    rw [cm] at HM
    have HK0 : Hid (∀ w', Below w.heap.size w w' → Calls Try.prog 26 #[.slice A T.length cap, .slice none 0 0, .agg #[.int .i64 p.x, .int .i64 p.y, .int .i64 p.z]] w' (InIs ((mskN (frL (L.take 0) p T) : Nat) : Int) w')) := Lib.hid (fun w' hb => hmask_any A cap T none 0 [] p w' (h1.below hb) m1.2 (SIn.nil w'))
    have HKS := Lib.hid (fun w' (hb : Below w.heap.size w w') (B : Option Addr) (cb : Nat) (S : List Sl) (hS : SIn w' B cb S) => hmask_any A cap T B cb S p w' (h1.below hb) m1.2 hS)
    have HCT := Lib.hid m1; have HCP := Lib.hid m3
    have hT24 := m1.2
    clear h1 h2 hT cm m1 m3
    go_enter Try.func16, Try.ntmps16
    go_upto_region 1 with fail
    rw [← HW0.out]; clear HW0
    obtain ⟨g, hg⟩ : ∃ g, g = w.heap.size := ⟨_, rfl⟩
    rw [← hg] at HP0
    simp only [← hg]
    clear hg
    have p0 := HP0.out.c0; have p1 := HP0.out.c1; have p2 := HP0.out.c2; have pl := HP0.out.lt
    go_wp2_with fail
    with_reducible refine Calls.mono (HM.out _ HB0.out) ?_
    rintro e w1 ⟨rfl, hb⟩
    have HB1 := Lib.hid (HB0.out.trans (hb.mono HB0.out.size))
    have HP1 := Lib.hid (HP0.out.go hb)
    clear hb HB0 HP0 p0 p1 p2 pl HM
    have p0 := HP1.out.c0; have p1 := HP1.out.c1; have p2 := HP1.out.c2; have pl := HP1.out.lt
    go_wp2_with fail
    with_reducible refine Calls.mono (HK0.out _ HB1.out) ?_
    rintro e w2 ⟨rfl, hb⟩
    have HB2 := Lib.hid (HB1.out.trans (hb.mono HB1.out.size))
    have HP2 := Lib.hid (HP1.out.go hb)
    clear hb HB1 HP1 p0 p1 p2 pl HK0
    obtain ⟨M0, hM0⟩ : ∃ M0, M0 = mskN (frL (L.take 0) p T) := ⟨_, rfl⟩
    rw [← hM0]
    have HM0 := Lib.hid hM0; clear hM0
    go_wp2_with fail
    go_loopw [7, 8] (fun m i wr => ∃ (k M : Nat), k ≤ L.length ∧ i = .int .i64 k ∧ m = .int .i64 M ∧ Hid (M = mskN (frL (L.take k) p T)) ∧ Hid (∀ j (h : j < L.length), j < k → SolP L[j]) ∧ Hid (P3At wr g p) ∧ Hid (Below w.heap.size w wr)) (fun _ i _ => L.length - (intOf i).toNat)
    case atStart => exact ⟨0, M0, Nat.zero_le _, rfl, rfl, HM0, Lib.hid (fun j _ h => by omega), HP2, HB2⟩
    case round =>
      clear HB2 HP2 HM0
      obtain ⟨k, M, hk, rfl, rfl, HM, HT, HP, HB⟩ := hrel
      by_cases hlt : k < L.length
      · obtain ⟨b1, o1, rfl, hb1, hv1⟩ := H2.out (by omega)
        obtain ⟨Aj, cj, q0, hsi⟩ := hv1 k hlt
        have q0 := (HB.out.cell (p := ⟨b1, o1 + k, none⟩) hb1).trans q0
        have HSI := Lib.hid (hsi.below HB.out)
        have hbw : b1 < wr.heap.size := Nat.lt_of_lt_of_le hb1 HB.out.size
        have n0 : (0 : Int) ≤ (k : Int) := by omega
        have n1 : (k : Int) < (L.length : Int) := by omega
        have BAD : Hid (¬ SolP L[k] → R = 0) := Lib.hid (fun hn => by rw [HRES.out]; exact if_neg (fun h => hn (h.2.2 _ (List.getElem_mem hlt))))
        have NX : Hid (SolP L[k] → ∀ j (h : j < L.length), j < k + 1 → SolP L[j]) := Lib.hid (fun hg j h hj => by
          by_cases e : j < k
          · exact HT.out j h e
          · obtain rfl : j = k := by omega
            exact hg)
        have HST : Hid (frL (L.take (k + 1)) p T = both2 (frL (L.take k) p T) (frB L[k] p T)) := Lib.hid (frL_take L p T k hlt)
        obtain ⟨u, hu⟩ : ∃ u, u = L[k] := ⟨_, rfl⟩
        rw [← hu] at q0 HSI BAD NX HST
        obtain ⟨n, hn⟩ : ∃ n, n = u.length := ⟨_, rfl⟩
        rw [← hn] at q0
        have HRU : Hid (∀ w', Below wr.heap.size wr w' → SolP u → Calls Try.prog 30 #[.slice Aj n cj] w' (BlIs true w')) := Lib.hid (fun w' hb hs => by rw [hn]; exact dright_yes (HSI.out.below hb) hs)
        have HRN : Hid (∀ w', Below wr.heap.size wr w' → ¬ SolP u → Calls Try.prog 30 #[.slice Aj n cj] w' (BlIs false w')) := Lib.hid (fun w' hb hs => by rw [hn]; exact dright_no (HSI.out.below hb) hs)
        obtain ⟨M2, hM2⟩ : ∃ M2, M2 = mskN (frB u p T) := ⟨_, rfl⟩
        have HPS : Hid (∀ w', Below wr.heap.size wr w' → Calls Try.prog 26 #[.slice A T.length cap, .slice Aj n cj, .agg #[.int .i64 p.x, .int .i64 p.y, .int .i64 p.z]] w' (InIs (M2 : Int) w')) := Lib.hid (fun w' hb => by
          rw [hM2, hn]
          exact HKS.out w' (HB.out.trans (hb.mono HB.out.size)) Aj cj u (HSI.out.below hb))
        obtain ⟨X, hX⟩ : ∃ X, X = mskN (frL (L.take (k + 1)) p T) := ⟨_, rfl⟩
        have hand : bits .and .i64 (M : Int) (M2 : Int) = (X : Int) := by
          have la := mskN_lt24 (lb := frL (L.take k) p T) (by rw [frL_len]; exact hT24)
          have lb := mskN_lt24 (lb := frB u p T) (by rw [frB_len]; exact hT24)
          rw [HM.out, hM2, hX, HST.out, i64_and_nat _ _ (by omega) (by omega), mskN_and]; rfl
        have HX := Lib.hid hX
        clear hu hv1 hb1 hsi HT HSI hn HST HM hM2 hX
        have hb0 := Below.refl wr.heap.size wr
        by_cases cs : SolP u
        · have HN := Lib.hid (NX.out cs)
          have HRY := Lib.hid (HRU.out _ hb0 cs)
          clear NX BAD HRU HRN cs hb0
          go_wp2_with fail
          with_reducible refine Calls.mono HRY.out ?_
          rintro e y3 ⟨rfl, hb⟩
          have HB3 := Lib.hid (HB.out.trans (hb.mono HB.out.size))
          have HP3 := Lib.hid (HP.out.go hb)
          have G1 := Lib.hid (fun w' (hh : Below y3.heap.size y3 w') => HPS.out w' (hb.trans (hh.mono hb.size)))
          have q0 := (hb.cell (p := ⟨b1, o1 + k, none⟩) hbw).trans q0
          have hbw := Nat.lt_of_lt_of_le hbw hb.size
          clear hb HB HP HRY HPS
          have E5 : Hid (Pi12 g b1 (o1 + k) p Aj n cj y3 y3) := Lib.hid ⟨HP3.out.c0, HP3.out.c1, HP3.out.c2, q0, HP3.out.lt, hbw, Lib.hid (Below.refl _ _)⟩
          obtain ⟨x0, x1, x2, _, l0, _, _⟩ := E5.out
          go_upto_region 9 with fail
          refine wp_region_held_drew (S := (fun w' => w'.cell? ⟨g, 0, none⟩ = some (.int .i64 p.x) ∧ w'.cell? ⟨g, 1, none⟩ = some (.int .i64 p.y) ∧ w'.cell? ⟨g, 2, none⟩ = some (.int .i64 p.z) ∧ w'.cell? ⟨b1, o1 + k, none⟩ = some (.slice Aj n cj) ∧ g < w'.heap.size ∧ b1 < w'.heap.size ∧ Hid (Below y3.heap.size y3 w'))) (by kernel_rfl) ?_ (fun hHeld => ?_)
          · exact Pi12.drewN E5.out 1
          refine wpAnyH_take (i := 0) (oi := { dst := some 28, op := Go.Op.move (Go.Operand.tmp 7), type := 3, pos := "ref.go:69", after := #[], guard := none }) (v := ?_) rfl (by kernel_rfl) (by kernel_rfl) (by kernel_rfl) (fun _ _ _ h => h) (Or.inl ⟨by rfl, ?_⟩) (by assumption) ?_
          rotate_left
          · (intro w hSw; (try dsimp only at hSw); go_simp); try with_reducible rfl
          try simp only [Act.put, List.setIfInBounds_toArray, List.set_cons_zero, List.set_cons_succ]
          refine wpAnyH_take (i := 1) (oi := { dst := some 29, op := Go.Op.move (Go.Operand.tmp 0), type := 22, pos := "ref.go:69", after := #[], guard := none }) (v := ?_) rfl (by kernel_rfl) (by kernel_rfl) (by kernel_rfl) (fun _ _ _ h => h) (Or.inl ⟨by rfl, ?_⟩) (by assumption) ?_
          rotate_left
          · (intro w hSw; (try dsimp only at hSw); go_simp); try with_reducible rfl
          try simp only [Act.put, List.setIfInBounds_toArray, List.set_cons_zero, List.set_cons_succ]
          refine wpAnyH_take (i := 2) (oi := { dst := some 30, op := Go.Op.move (Go.Operand.tmp 1), type := 28, pos := "ref.go:69", after := #[], guard := none }) (v := ?_) rfl (by kernel_rfl) (by kernel_rfl) (by kernel_rfl) (fun _ _ _ h => h) (Or.inl ⟨by rfl, ?_⟩) (by assumption) ?_
          rotate_left
          · (intro w hSw; (try dsimp only at hSw); go_simp); try with_reducible rfl
          try simp only [Act.put, List.setIfInBounds_toArray, List.set_cons_zero, List.set_cons_succ]
          refine wpAnyH_take (i := 3) (oi := { dst := some 31, op := Go.Op.move (Go.Operand.tmp 8), type := 3, pos := "ref.go:69", after := #[], guard := none }) (v := ?_) rfl (by kernel_rfl) (by kernel_rfl) (by kernel_rfl) (fun _ _ _ h => h) (Or.inl ⟨by rfl, ?_⟩) (by assumption) ?_
          rotate_left
          · (intro w hSw; (try dsimp only at hSw); go_simp); try with_reducible rfl
          try simp only [Act.put, List.setIfInBounds_toArray, List.set_cons_zero, List.set_cons_succ]
          refine wpAnyH_take (i := 4) (oi := { dst := some 32, op := Go.Op.indexAddr 28 (Go.Operand.tmp 30) (Go.Operand.tmp 31), type := 0, pos := "ref.go:69", after := #[{ on := 2, ground := Go.Ground.data }, { on := 3, ground := Go.Ground.data }], guard := none }) (v := ?_) rfl (by kernel_rfl) (by kernel_rfl) (by kernel_rfl) (fun _ _ _ h => h) (Or.inl ⟨by rfl, ?_⟩) (by assumption) ?_
          rotate_left
          · (intro w hSw; (try dsimp only at hSw); go_simp); try with_reducible rfl
          try simp only [Act.put, List.setIfInBounds_toArray, List.set_cons_zero, List.set_cons_succ]
          refine wpAnyH_take (i := 5) (oi := { dst := some 33, op := Go.Op.load 23 (Go.Operand.tmp 32), type := 23, pos := "ref.go:69", after := #[{ on := 4, ground := Go.Ground.data }], guard := none }) (v := ?_) rfl (by kernel_rfl) (by kernel_rfl) (by kernel_rfl) (fun _ _ _ h => h) (Or.inl ⟨by rfl, ?_⟩) (by assumption) ?_
          rotate_left
          · (intro w hSw; (try dsimp only at hSw); go_simp); try with_reducible rfl
          try simp only [Act.put, List.setIfInBounds_toArray, List.set_cons_zero, List.set_cons_succ]
          refine wpAnyH_take (i := 6) (oi := { dst := some 34, op := Go.Op.load 25 (Go.Operand.tmp 5), type := 25, pos := "ref.go:69", after := #[], guard := none }) (v := ?_) rfl (by kernel_rfl) (by kernel_rfl) (by kernel_rfl) (fun _ _ _ h => h) (Or.inl ⟨by rfl, ?_⟩) (by assumption) ?_
          rotate_left
          · (intro w hSw; (try dsimp only at hSw); go_simp); try with_reducible rfl
          try simp only [Act.put, List.setIfInBounds_toArray, List.set_cons_zero, List.set_cons_succ]
          refine wpAnyH_ready (rs := [7]) (by kernel_rfl) (by simp) ?_
          refine (AllReadyH.cons (o := { dst := some 35, op := Go.Op.call { callee := Go.Callee.value (Go.Operand.func 26), args := #[Go.Operand.tmp 29, Go.Operand.tmp 33, Go.Operand.tmp 34], argTypes := #[22, 23, 25] }, type := 3, pos := "ref.go:69", after := #[{ on := 1, ground := Go.Ground.data }, { on := 5, ground := Go.Ground.data }, { on := 6, ground := Go.Ground.data }], guard := none }) rfl (fun K0 hK => ?_) AllReadyH.nil)
          have hbq9 := Pi12.bel (g := g) (b := b1) (i := o1 + k) (p := p) (A := Aj) (n := n) (c := cj) (w0 := y3) hHeld
          go_simp
          go_at_call 26
          with_reducible refine Calls.mono (G1.out _ hbq9) ?_
          rintro e w97 ⟨rfl, hb⟩
          try go_wp2_with fail
          refine hK.out _ _ (Pi12.go (g := g) (b := b1) (i := o1 + k) (p := p) (A := Aj) (n := n) (c := cj) (w0 := y3) (by assumption) hb) (fun hHeld2 => ?_)
          clear hK K0 hHeld hb hbq9
          have hHeld := hHeld2; clear hHeld2
          try simp only [Act.put, List.setIfInBounds_toArray, List.set_cons_zero, List.set_cons_succ]
          refine wpAnyH_take (i := 8) (oi := { dst := some 36, op := Go.Op.binOp Go.BinOp.and 3 (Go.Operand.tmp 28) (Go.Operand.tmp 35) 3, type := 3, pos := "ref.go:69", after := #[{ on := 0, ground := Go.Ground.data }, { on := 7, ground := Go.Ground.data }], guard := none }) (v := ?_) rfl (by kernel_rfl) (by kernel_rfl) (by kernel_rfl) (fun _ _ _ h => h) (Or.inl ⟨by rfl, ?_⟩) (by assumption) ?_
          rotate_left
          · (intro w hSw; (try dsimp only at hSw); go_simp); try with_reducible rfl
          try simp only [Act.put, List.setIfInBounds_toArray, List.set_cons_zero, List.set_cons_succ]
          refine wpAnyH_take (i := 9) (oi := { dst := some 7, op := Go.Op.assign (Go.Operand.tmp 36), type := 3, pos := "ref.go:69", after := #[{ on := 8, ground := Go.Ground.data }, { on := 7, ground := Go.Ground.chain }, { on := 0, ground := Go.Ground.phase }, { on := 1, ground := Go.Ground.phase }, { on := 2, ground := Go.Ground.phase }, { on := 3, ground := Go.Ground.phase }, { on := 4, ground := Go.Ground.phase }, { on := 5, ground := Go.Ground.phase }, { on := 6, ground := Go.Ground.phase }, { on := 7, ground := Go.Ground.phase }, { on := 8, ground := Go.Ground.phase }], guard := none }) (v := ?_) rfl (by kernel_rfl) (by kernel_rfl) (by kernel_rfl) (fun _ _ _ h => h) (Or.inl ⟨by rfl, ?_⟩) (by assumption) ?_
          rotate_left
          · (intro w hSw; (try dsimp only at hSw); go_simp); try with_reducible rfl
          try simp only [Act.put, List.setIfInBounds_toArray, List.set_cons_zero, List.set_cons_succ]
          refine wpAnyH_done (by kernel_rfl) ?_ _
          have HZB := Lib.hid (HB3.out.trans ((Pi12.bel (g := g) (b := b1) (i := o1 + k) (p := p) (A := Aj) (n := n) (c := cj) (w0 := y3) hHeld).mono HB3.out.size))
          have HZP := Lib.hid (HP3.out.go (Pi12.bel (g := g) (b := b1) (i := o1 + k) (p := p) (A := Aj) (n := n) (c := cj) (w0 := y3) hHeld))
          clear hHeld
          go_wp2_with fail
          go_roundw
          case rel => exact ⟨k + 1, X, by omega, by go_num, by first | rfl | rw [hand], HX, HN, HZP, HZB⟩
          case measure => simp [intOf]; omega
        · have HQ := Lib.hid (BAD.out cs)
          have HRY := Lib.hid (HRN.out _ hb0 cs)
          clear NX BAD HRU HRN cs hb0 HPS
          go_wp2_with fail
          with_reducible refine Calls.mono HRY.out ?_
          rintro e y3 ⟨rfl, hb⟩
          have HB3 := Lib.hid (HB.out.trans (hb.mono HB.out.size))
          clear hb HB HP HRY
          go_wp2_with fail
          go_ret
          exact ⟨by rw [HQ.out]; rfl, HB3.out⟩
      · obtain rfl : k = L.length := by omega
        have HQ : Hid (R = (M : Int)) := Lib.hid (by
          rw [HRES.out, HM.out, List.take_length]
          refine if_pos ⟨HCT.out, HCP.out, fun S hS => ?_⟩
          obtain ⟨j, hj, rfl⟩ := List.mem_iff_getElem.1 hS
          exact HT.out j hj hj)
        go_wp2_with fail
        go_ret
        exact ⟨by rw [HQ.out]; rfl, HB.out⟩

end Go.Proofs.Ytdnoadngfkiabaa
