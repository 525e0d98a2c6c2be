/-
  Contracts of the program's layer 8 (4): eachSlab at rowsAround's closure.
-/
import Derived.Test.YtcnojedijimheaaSh
import Derived.BigQuiet
import Derived.Lib.MinMax
set_option linter.unusedVariables false
set_option maxRecDepth 100000
namespace Go.Proofs.Ytcnojedijimheaa
open Go.RowKit

theorem flatS_cons (t : Slab) (T : List Slab) : flatS (t :: T) = rectsOf t.x0 t.x1 t.t ++ flatS T := by simp [flatS]
theorem wstep_len (x0 x1 : Int) (q : Int × List (Int × Int)) (s : Slab) : (wstep x0 x1 q s).2.length ≤ q.2.length + (twos s.t).length := by
  unfold wstep
  split
  · exact comS_len _ _ _ (Nat.le_refl _)
  · omega
theorem cols_nn (x0 x1 : Int) : ∀ (S : List Slab), 0 ≤ colsIn x0 x1 S := by
  intro S
  induction S with
  | nil => simp [colsIn]
  | cons z S ih => rw [colsIn]; split <;> omega
theorem slabs_nil {T : List Slab} (h : SlabsOk T) (h0 : (flatS T).length = 0) : T = [] := by
  cases T with
  | nil => rfl
  | cons t T =>
    obtain ⟨p, hp⟩ := twos_ne h.head.ev h.head.ne
    have : 0 < (twos t.t).length := List.length_pos_of_mem hp
    rw [flatS_cons, List.length_append, rects_len] at h0
    omega
theorem head0 {t : Slab} {T : List Slab} (h : SlabsOk (t :: T)) (h0 : 0 < (flatS (t :: T)).length) : ((flatS (t :: T))[0]).X0 = t.x0 ∧ ((flatS (t :: T))[0]).X1 = t.x1 := by
  obtain ⟨p, hp⟩ := twos_ne h.head.ev h.head.ne
  have hpos : 0 < (rectsOf t.x0 t.x1 t.t).length := by rw [rects_len]; exact List.length_pos_of_mem hp
  have e : (flatS (t :: T))[0] = (rectsOf t.x0 t.x1 t.t)[0] := by
    have : flatS (t :: T) = rectsOf t.x0 t.x1 t.t ++ flatS T := by simp [flatS]
    simp only [this]; rw [List.getElem_append_left hpos]
  rw [e]; exact rects_x' (List.getElem_mem hpos)
/-- the round of eachSlab. -/
structure EachAt (W0 : World) (bm br : Nat) (x0 x1 : Int) (F : Int × List (Int × Int)) (A : Option Addr) (c : Nat) (T : List Slab) (q : Int × List (Int × Int)) (w : World) : Prop where
  ok : SlabsOk T
  row : RRow W0 A (flatS T)
  fo : wfold x0 x1 q T = F
  st : RowsSt W0 bm br q.1 q.2 w
  b : -16777216 ≤ q.1 - colsIn x0 x1 T ∧ q.1 ≤ 8388608 ∧ q.2.length + (flatS T).length ≤ 1200
theorem EachAt.next {W0 : World} {bm br : Nat} {x0 x1 : Int} {F : Int × List (Int × Int)} {A A' : Option Addr} {c c' : Nat} {t : Slab} {T : List Slab} {q : Int × List (Int × Int)} {w w' : World} (h : EachAt W0 bm br x0 x1 F A c (t :: T) q w) (hr : RRow W0 A' (flatS T)) (hs : RowsSt W0 bm br (wstep x0 x1 q t).1 (wstep x0 x1 q t).2 w') : EachAt W0 bm br x0 x1 F A' c' T (wstep x0 x1 q t) w' := by
  refine ⟨h.ok.tail, hr, h.fo, hs, ?_⟩
  have hb := h.b
  have h1 : (wstep x0 x1 q t).1 - colsIn x0 x1 T = q.1 - colsIn x0 x1 (t :: T) := by
    rw [colsIn]; unfold wstep; split <;> (try simp only []) <;> omega
  have h2 := wstep_len x0 x1 q t
  have h3 : (flatS (t :: T)).length = (twos t.t).length + (flatS T).length := by rw [flatS_cons, List.length_append, rects_len]
  have h4 : (wstep x0 x1 q t).1 ≤ q.1 := by unfold wstep; split <;> (try simp only []) <;> omega
  omega
set_option maxHeartbeats 16000000 in
theorem yeach_any (W0 : World) (bm br : Nat) (m : Int) (P : List (Int × Int)) (A : Option Addr) (cap : Nat) (S : List Slab) (x0 x1 : Int) (w : World) (h : RowsSt W0 bm br m P w) (hS : SlabsOk S) (hl : RRow W0 A (flatS S)) (hlen : (flatS S).length ≤ 200) (hcap : (flatS S).length ≤ cap) (hcap2 : cap ≤ 9223372036854775807)
    (hx : -4194304 ≤ x0 ∧ x0 ≤ x1 ∧ x1 ≤ 4194304) (hm : -8388608 ≤ m ∧ m ≤ 8388608) (hP : P.length ≤ 1000) :
    Calls Try.prog 95 #[.slice A (flatS S).length cap, .int .i64 x0, .int .i64 x1, .func (.func 96) #[] #[.pointer (some ⟨bm, 0, none⟩), .pointer (some ⟨br, 0, none⟩)]] w fun e w' => e = .returned (.tuple #[]) ∧ RowsSt W0 bm br (wfold x0 x1 (m, P) S).1 (wfold x0 x1 (m, P) S).2 w' := by
  have HX := Lib.hid hx
  have K0 : Hid (EachAt W0 bm br x0 x1 (wfold x0 x1 (m, P) S) A cap S (m, P) w) := Lib.hid ⟨hS, hl, rfl, h, by have := (cols_full (x0 := x0) (x1 := x1) hS).1; simp only []; omega⟩
  clear h hl hS hm hP hx hlen
  generalize wfold x0 x1 (m, P) S = F at *
  go_enter Try.func95, Try.ntmps95
  go_wp2
  go_loopw [0, 8, 9] (fun a _ _ wr => ∃ (A' : Option Addr) (c' : Nat) (T : List Slab) (q : Int × List (Int × Int)), a = .slice A' (flatS T).length c' ∧ (flatS T).length ≤ c' ∧ c' ≤ 9223372036854775807 ∧ Hid (EachAt W0 bm br x0 x1 F A' c' T q wr)) (fun a _ _ _ => (match a with | .slice _ n _ => n | _ => 0))
  case atStart => exact ⟨A, cap, S, (m, P), rfl, hcap, hcap2, K0⟩
  case round =>
    clear K0 hcap hcap2
    obtain ⟨A', c', T, q, rfl, k1, k2, HE⟩ := hrel
    cases T with
    | nil =>
      have r1 : (flatS []).length = 0 := rfl
      rw [r1] at k1 ⊢
      have HR : Hid (RowsSt W0 bm br F.1 F.2 wr) := Lib.hid (by have := HE.out.fo; rw [← this]; exact HE.out.st)
      clear HE r1
      go_wp2
      go_end0
      exact ⟨rfl, HR.out⟩
    | cons t T =>
      have hD : 0 < (flatS (t :: T)).length := by
        rcases Nat.eq_zero_or_pos (flatS (t :: T)).length with e | e
        · have := slabs_nil HE.out.ok e; cases this
        · exact e
      obtain ⟨L, hL⟩ : ∃ L, L = flatS (t :: T) := ⟨_, rfl⟩
      have HHD : Hid (∀ n, HeadAt L n → L.take n = rectsOf t.x0 t.x1 t.t ∧ L.drop n = flatS T) := Lib.hid (fun n hn => by subst hL; exact (head_slab HE.out.ok hn).2)
      obtain ⟨z0, z1⟩ := head0 HE.out.ok hD
      have HROW : Hid (RRow W0 A' L) := Lib.hid (by rw [hL]; exact HE.out.row)
      have hlen : L.length ≤ 1200 := by have := HE.out.b; rw [hL]; omega
      have tx := HE.out.ok.head.x
      rw [← hL] at hD k1 ⊢
      have z0 : L[0].X0 = t.x0 := by simp only [hL]; exact z0
      have z1 : L[0].X1 = t.x1 := by simp only [hL]; exact z1
      clear hL
      obtain ⟨b1, o1, rfl, hb1, hv1⟩ := HROW.out hD
      have wc := fun o => HE.out.st.bel.cell (p := ⟨b1, o, none⟩) hb1
      have hv2 : ∀ j (h : j < L.length), wr.cell? ⟨b1, o1 + j * 4, none⟩ = some (.int .i64 L[j].X0) := fun j h => (wc _).trans (hv1 j h).1
      obtain ⟨y0, _, y2, _⟩ := hv1 0 hD
      have y0 := (wc _).trans y0; have y2 := (wc _).trans y2
      simp only [Nat.zero_mul, Nat.add_zero] at y0 y2
      rw [z0] at y0; rw [z1] at y2
      have hbw := Nat.lt_of_lt_of_le hb1 HE.out.st.bel.size
      have HV := Lib.hid hv2
      clear wc hv1 hv2 z1
      have HZ := Lib.hid z0; clear z0
      have r0 : (0 : Int) < (L.length : Int) := by omega
      go_wp2_with fail
      go_loopw [8] (fun i w2 => ∃ (n q' : Nat), 1 ≤ n ∧ n ≤ L.length ∧ i = .int .i64 n ∧ w2 = wr.drewN q' ∧ ∀ j (h : j < L.length), j < n → L[j].X0 = t.x0) (fun i _ => L.length - (intOf i).toNat)
      case atStart => exact ⟨1, 0, Nat.le_refl _, hD, rfl, rfl, fun j h h1 => by obtain rfl : j = 0 := by omega
                                                                                 exact HZ.out⟩
      case round =>
        obtain ⟨n, q', hn1, hn2, rfl, rfl, hall⟩ := hrel
        have HALL := Lib.hid hall; clear hall
        by_cases hlt : n < L.length
        · have y9 := HV.out n hlt
          have n0 : (0 : Int) ≤ (n : Int) := by omega
          have n1 : (n : Int) < (L.length : Int) := by omega
          have d1 : decide ((n : Int) < (L.length : Int)) = true := decide_eq_true n1
          by_cases he : L[n].X0 = t.x0
          · have HA2 : Hid (∀ j (h : j < L.length), j < n + 1 → L[j].X0 = t.x0) := Lib.hid (fun j h h1 => by
              by_cases e : j < n
              · exact HALL.out j h e
              · obtain rfl : j = n := by omega
                exact he)
            rw [he] at y9
            clear HALL he
            go_wp2_with fail
            go_quiet (fail)
            go_wp2
            go_roundw
            case rel => exact ⟨n + 1, _, by omega, by omega, by go_num, rfl, HA2.out⟩
            case measure => simp [intOf]; omega
          · have HHA : Hid (HeadAt L n) := Lib.hid ⟨hn1, hn2, fun j h h1 => by rw [HALL.out j h h1, HZ.out], fun h => by rw [HZ.out]; exact he⟩
            obtain ⟨x9, hx9⟩ : ∃ x9, x9 = L[n].X0 := ⟨_, rfl⟩
            rw [← hx9] at y9 he
            have de : (x9 == t.x0) = false := by simp [he]
            clear hx9 he HALL
            obtain ⟨R, hR⟩ : ∃ R, R = L.take n := ⟨_, rfl⟩
            have HR1 : Hid (R = rectsOf t.x0 t.x1 t.t) := Lib.hid (by rw [hR]; exact (HHD.out _ HHA.out).1)
            have HR2 : Hid (L.drop n = flatS T) := Lib.hid (HHD.out _ HHA.out).2
            have HRR : Hid (RRow W0 (some ⟨b1, o1, none⟩) R) := Lib.hid (by rw [hR]; exact HROW.out.take n)
            have hRn : R.length = n := by rw [hR, List.length_take]; omega
            have NR : Hid (RRow W0 (some ⟨b1, o1 + n * 4, none⟩) (flatS T)) := Lib.hid (by rw [← HR2.out]; exact HROW.out.drop n)
            have hLd : L.length - n = (flatS T).length := by rw [← HR2.out, List.length_drop]
            clear hR
            have tx1 := tx.1; have tx2 := tx.2.1; have tx3 := tx.2.2
            have hx1 := HX.out.1; have hx2 := HX.out.2.1; have hx3 := HX.out.2.2
            have qq : IntKind.i64.wrap (min x1 t.x1 - max x0 t.x0) = min x1 t.x1 - max x0 t.x0 := IntWalk.i64_in _ (by omega)
            go_wp2_with fail
            go_quiet (fail)
            go_wp2_with fail
            go_quiet (fail)
            generalize hwx : World.drewN _ _ = wx
            have HS : Hid (RowsSt W0 bm br q.1 q.2 wx) := Lib.hid (by rw [← hwx]; exact HE.out.st.go (below_drewN (below_drewN (below_drewN (Below.refl _ _) _) _) _))
            clear hwx y0 y2 qq y9
            have hbb := HE.out.b
            have hcb : 0 ≤ colsIn x0 x1 T := cols_nn x0 x1 T
            have hc1 : (if 0 < colW x0 x1 t then colW x0 x1 t else 0) + colsIn x0 x1 T = colsIn x0 x1 (t :: T) := rfl
            have hsp : spansR R = twos t.t := by rw [HR1.out, spans_rects]
            have hql : q.2.length + R.length ≤ 1200 := by have := hbb.2.2; rw [flatS_cons, List.length_append, ← HR1.out] at this; omega
            by_cases hc : 0 < min x1 t.x1 - max x0 t.x0
            · have hcw : 0 < colW x0 x1 t := hc
              rw [if_pos hcw] at hc1
              have hcv : colW x0 x1 t = min x1 t.x1 - max x0 t.x0 := rfl
              have hC := yrowsC_any W0 bm br q.1 q.2 (some ⟨b1, o1, none⟩) c' R (min x1 t.x1 - max x0 t.x0) wx HS.out HRR.out (by omega) (by omega) (by omega) (by omega)
              rw [hRn, hsp] at hC
              have HW : Hid (wstep x0 x1 q t = (q.1 - (min x1 t.x1 - max x0 t.x0), comS q.2 (twos t.t))) := Lib.hid (by unfold wstep; rw [if_pos hcw]; rfl)
              have HC := Lib.hid hC
              clear hC hsp hql hbb hcb hc1 hcw hcv hRn HS HRR HR1 HR2
              obtain ⟨cw, hcw⟩ : ∃ cw, cw = min x1 t.x1 - max x0 t.x0 := ⟨_, rfl⟩
              rw [← hcw] at HC HW hc ⊢
              clear hcw
              by_cases hf : n = c'
              · have hz0 : (flatS T).length = 0 := by omega
                have NR0 : Hid (RRow W0 (some ⟨b1, o1, none⟩) (flatS T)) := Lib.hid (fun h0 => by omega)
                subst hf
                have HZ0 := Lib.hid hz0; have HLd := Lib.hid hLd; clear hz0 hLd
                go_wp2_with fail
                refine HC.out.mono ?_
                rintro e1 w1 ⟨rfl, hst⟩
                have HEN := Lib.hid (fun c => HE.out.next (A' := some ⟨b1, o1, none⟩) (c' := c) NR0.out (by rw [HW.out]; exact hst))
                clear hst HE HW HC
                go_wp2_with fail
                go_roundw
                case rel => exact ⟨_, 0, T, wstep x0 x1 q t, by rw [HZ0.out], by have := HZ0.out; omega, by omega, Lib.hid (HEN.out _)⟩
                case measure => have := HZ0.out; simp; omega
              · have s1 : ((n : Nat) : Int) ≤ (L.length : Int) := by omega
                have s2 : (L.length : Int) ≤ (c' : Int) := by omega
                have s3 : ((n : Nat) : Int) ≤ (c' : Int) := by omega
                have HLd := Lib.hid hLd; clear hLd
                go_wp2_with fail
                refine HC.out.mono ?_
                rintro e1 w1 ⟨rfl, hst⟩
                have HEN := Lib.hid (fun c => HE.out.next (A' := some ⟨b1, o1 + n * 4, none⟩) (c' := c) NR.out (by rw [HW.out]; exact hst))
                clear hst HE HW HC
                go_wp2_with fail
                go_roundw
                case rel => exact ⟨_, _, T, wstep x0 x1 q t, by first | (rw [← HLd.out]; done) | rw [← HLd.out, Nat.sub_self], by rw [← HLd.out]; omega, by omega, Lib.hid (HEN.out _)⟩
                case measure => simp; omega
            · have hcw : ¬ 0 < colW x0 x1 t := hc
              have HW : Hid (wstep x0 x1 q t = q) := Lib.hid (by unfold wstep; rw [if_neg hcw])
              clear hsp hql hbb hcb hc1 hcw hRn HRR HR1 HR2
              obtain ⟨cw, hcw⟩ : ∃ cw, cw = min x1 t.x1 - max x0 t.x0 := ⟨_, rfl⟩
              rw [← hcw] at hc ⊢
              clear hcw
              by_cases hf : n = c'
              · have hz0 : (flatS T).length = 0 := by omega
                have NR0 : Hid (RRow W0 (some ⟨b1, o1, none⟩) (flatS T)) := Lib.hid (fun h0 => by omega)
                subst hf
                have HZ0 := Lib.hid hz0; have HLd := Lib.hid hLd; clear hz0 hLd
                have HEN := Lib.hid (fun c => HE.out.next (A' := some ⟨b1, o1, none⟩) (c' := c) NR0.out (by rw [HW.out]; exact HS.out))
                clear HS HE HW
                go_wp2_with fail
                go_roundw
                case rel => exact ⟨_, 0, T, wstep x0 x1 q t, by rw [HZ0.out], by have := HZ0.out; omega, by omega, Lib.hid (HEN.out _)⟩
                case measure => have := HZ0.out; simp; omega
              · have s1 : ((n : Nat) : Int) ≤ (L.length : Int) := by omega
                have s2 : (L.length : Int) ≤ (c' : Int) := by omega
                have HLd := Lib.hid hLd; clear hLd
                have HEN := Lib.hid (fun c => HE.out.next (A' := some ⟨b1, o1 + n * 4, none⟩) (c' := c) NR.out (by rw [HW.out]; exact HS.out))
                clear HS HE HW
                go_wp2_with fail
                go_roundw
                case rel => exact ⟨_, _, T, wstep x0 x1 q t, by first | (rw [← HLd.out]; done) | rw [← HLd.out, Nat.sub_self], by rw [← HLd.out]; omega, by omega, Lib.hid (HEN.out _)⟩
                case measure => simp; omega
        · obtain rfl : n = L.length := by omega
          have d1 : decide ((L.length : Int) < (L.length : Int)) = false := by simp
          have HHA : Hid (HeadAt L L.length) := Lib.hid ⟨hn1, hn2, fun j h h1 => by rw [HALL.out j h h1, HZ.out], fun h => absurd h (Nat.lt_irrefl _)⟩
          clear HALL
          obtain ⟨R, hR⟩ : ∃ R, R = L.take L.length := ⟨_, rfl⟩
          have HR1 : Hid (R = rectsOf t.x0 t.x1 t.t) := Lib.hid (by rw [hR]; exact (HHD.out _ HHA.out).1)
          have HR2 : Hid (L.drop L.length = flatS T) := Lib.hid (HHD.out _ HHA.out).2
          have HRR : Hid (RRow W0 (some ⟨b1, o1, none⟩) R) := Lib.hid (by rw [hR]; exact HROW.out.take L.length)
          have hRn : R.length = L.length := by rw [hR, List.length_take]; omega
          have NR : Hid (RRow W0 (some ⟨b1, o1 + L.length * 4, none⟩) (flatS T)) := Lib.hid (by rw [← HR2.out]; exact HROW.out.drop L.length)
          have hLd : L.length - L.length = (flatS T).length := by rw [← HR2.out, List.length_drop]
          clear hR
          have tx1 := tx.1; have tx2 := tx.2.1; have tx3 := tx.2.2
          have hx1 := HX.out.1; have hx2 := HX.out.2.1; have hx3 := HX.out.2.2
          have qq : IntKind.i64.wrap (min x1 t.x1 - max x0 t.x0) = min x1 t.x1 - max x0 t.x0 := IntWalk.i64_in _ (by omega)
          go_wp2_with fail
          go_quiet (fail)
          go_wp2_with fail
          go_quiet (fail)
          generalize hwx : World.drewN _ _ = wx
          have HS : Hid (RowsSt W0 bm br q.1 q.2 wx) := Lib.hid (by rw [← hwx]; exact HE.out.st.go (below_drewN (below_drewN (below_drewN (Below.refl _ _) _) _) _))
          clear hwx y0 y2 qq
          have hbb := HE.out.b
          have hcb : 0 ≤ colsIn x0 x1 T := cols_nn x0 x1 T
          have hc1 : (if 0 < colW x0 x1 t then colW x0 x1 t else 0) + colsIn x0 x1 T = colsIn x0 x1 (t :: T) := rfl
          have hsp : spansR R = twos t.t := by rw [HR1.out, spans_rects]
          have hql : q.2.length + R.length ≤ 1200 := by have := hbb.2.2; rw [flatS_cons, List.length_append, ← HR1.out] at this; omega
          by_cases hc : 0 < min x1 t.x1 - max x0 t.x0
          · have hcw : 0 < colW x0 x1 t := hc
            rw [if_pos hcw] at hc1
            have hcv : colW x0 x1 t = min x1 t.x1 - max x0 t.x0 := rfl
            have hC := yrowsC_any W0 bm br q.1 q.2 (some ⟨b1, o1, none⟩) c' R (min x1 t.x1 - max x0 t.x0) wx HS.out HRR.out (by omega) (by omega) (by omega) (by omega)
            rw [hRn, hsp] at hC
            have HW : Hid (wstep x0 x1 q t = (q.1 - (min x1 t.x1 - max x0 t.x0), comS q.2 (twos t.t))) := Lib.hid (by unfold wstep; rw [if_pos hcw]; rfl)
            have HC := Lib.hid hC
            clear hC hsp hql hbb hcb hc1 hcw hcv hRn HS HRR HR1 HR2
            obtain ⟨cw, hcw⟩ : ∃ cw, cw = min x1 t.x1 - max x0 t.x0 := ⟨_, rfl⟩
            rw [← hcw] at HC HW hc ⊢
            clear hcw
            by_cases hf : L.length = c'
            · have hz0 : (flatS T).length = 0 := by omega
              have NR0 : Hid (RRow W0 (some ⟨b1, o1, none⟩) (flatS T)) := Lib.hid (fun h0 => by omega)
              subst hf
              have HZ0 := Lib.hid hz0; have HLd := Lib.hid hLd; clear hz0 hLd
              go_wp2_with fail
              refine HC.out.mono ?_
              rintro e1 w1 ⟨rfl, hst⟩
              have HEN := Lib.hid (fun c => HE.out.next (A' := some ⟨b1, o1, none⟩) (c' := c) NR0.out (by rw [HW.out]; exact hst))
              clear hst HE HW HC
              go_wp2_with fail
              go_roundw
              case rel => exact ⟨_, 0, T, wstep x0 x1 q t, by rw [HZ0.out], by have := HZ0.out; omega, by omega, Lib.hid (HEN.out _)⟩
              case measure => have := HZ0.out; simp; omega
            · have s1 : ((L.length : Nat) : Int) ≤ (L.length : Int) := by omega
              have s2 : (L.length : Int) ≤ (c' : Int) := by omega
              have s3 : ((L.length : Nat) : Int) ≤ (c' : Int) := by omega
              have HLd := Lib.hid hLd; clear hLd
              go_wp2_with fail
              refine HC.out.mono ?_
              rintro e1 w1 ⟨rfl, hst⟩
              have HEN := Lib.hid (fun c => HE.out.next (A' := some ⟨b1, o1 + L.length * 4, none⟩) (c' := c) NR.out (by rw [HW.out]; exact hst))
              clear hst HE HW HC
              go_wp2_with fail
              go_roundw
              case rel => exact ⟨_, _, T, wstep x0 x1 q t, by first | (rw [← HLd.out]; done) | rw [← HLd.out, Nat.sub_self], by rw [← HLd.out]; omega, by omega, Lib.hid (HEN.out _)⟩
              case measure => simp; omega
          · have hcw : ¬ 0 < colW x0 x1 t := hc
            have HW : Hid (wstep x0 x1 q t = q) := Lib.hid (by unfold wstep; rw [if_neg hcw])
            clear hsp hql hbb hcb hc1 hcw hRn HRR HR1 HR2
            obtain ⟨cw, hcw⟩ : ∃ cw, cw = min x1 t.x1 - max x0 t.x0 := ⟨_, rfl⟩
            rw [← hcw] at hc ⊢
            clear hcw
            by_cases hf : L.length = c'
            · have hz0 : (flatS T).length = 0 := by omega
              have NR0 : Hid (RRow W0 (some ⟨b1, o1, none⟩) (flatS T)) := Lib.hid (fun h0 => by omega)
              subst hf
              have HZ0 := Lib.hid hz0; have HLd := Lib.hid hLd; clear hz0 hLd
              have HEN := Lib.hid (fun c => HE.out.next (A' := some ⟨b1, o1, none⟩) (c' := c) NR0.out (by rw [HW.out]; exact HS.out))
              clear HS HE HW
              go_wp2_with fail
              go_roundw
              case rel => exact ⟨_, 0, T, wstep x0 x1 q t, by rw [HZ0.out], by have := HZ0.out; omega, by omega, Lib.hid (HEN.out _)⟩
              case measure => have := HZ0.out; simp; omega
            · have s1 : ((L.length : Nat) : Int) ≤ (L.length : Int) := by omega
              have s2 : (L.length : Int) ≤ (c' : Int) := by omega
              have HLd := Lib.hid hLd; clear hLd
              have HEN := Lib.hid (fun c => HE.out.next (A' := some ⟨b1, o1 + L.length * 4, none⟩) (c' := c) NR.out (by rw [HW.out]; exact HS.out))
              clear HS HE HW
              go_wp2_with fail
              go_roundw
              case rel => exact ⟨_, _, T, wstep x0 x1 q t, by first | (rw [← HLd.out]; done) | rw [← HLd.out, Nat.sub_self], by rw [← HLd.out]; omega, by omega, Lib.hid (HEN.out _)⟩
              case measure => simp; omega
end Go.Proofs.Ytcnojedijimheaa
