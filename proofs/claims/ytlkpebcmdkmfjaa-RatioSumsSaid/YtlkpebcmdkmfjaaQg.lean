/-
  Contracts of the reference of layer 4: down, common, part, Make, Right.
-/
import Derived.Test.YtlkpebcmdkmfjaaQf
set_option linter.unusedVariables false
set_option maxRecDepth 100000
namespace Go.Proofs.Ytlkpebcmdkmfjaa
open Go.RowKit

theorem ret_i64 {a b : Int} (h : a = b) : Ending.returned (.int .i64 a) = .returned (.int .i64 b) := by rw [h]
theorem down_any (n : Int) (h : In64 n) (w : World) : Calls Try.prog 31 #[.int .i64 n] w fun e w' => e = .returned (.int .i64 (-(n.natAbs : Int))) ∧ w = w' := by
  obtain ⟨h1, h2⟩ := h
  by_cases hn : 0 < n
  · go_enter Try.func31, Try.ntmps31
    go_wp2
    go_ret
    exact ⟨ret_i64 (by omega), rfl⟩
  · go_enter Try.func31, Try.ntmps31
    go_wp2
    go_ret
    exact ⟨ret_i64 (by omega), rfl⟩

theorem tmod_neg (a b : Nat) : (-(a : Int)).tmod (-(b : Int)) = -((a % b : Nat) : Int) := by
  rw [Int.tmod_neg, Int.neg_tmod, Int.tmod_eq_emod_of_nonneg (by omega)]; simp
theorem gcd_step2 (a b : Nat) : Nat.gcd b (a % b) = Nat.gcd a b := by
  rw [Nat.gcd_comm a b, Nat.gcd_rec b a, Nat.gcd_comm]
set_option maxHeartbeats 1000000 in
theorem common_any (p q : Nat) (hp : p ≤ 9223372036854775808) (hq : q ≤ 9223372036854775808) (w : World) :
    Calls Try.prog 30 #[.int .i64 (-(p : Int)), .int .i64 (-(q : Int))] w fun e w' => e = .returned (.int .i64 (-((Nat.gcd p q : Nat) : Int))) ∧ w = w' := by
  go_enter Try.func30, Try.ntmps30
  go_wp2
  go_loop [0, 1] (fun x y => ∃ a b : Nat, x = .int .i64 (-(a : Int)) ∧ y = .int .i64 (-(b : Int)) ∧ a ≤ 9223372036854775808 ∧ b ≤ 9223372036854775808 ∧ Hid (Nat.gcd a b = Nat.gcd p q)) (fun _ y => (-(intOf y)).toNat)
  case atStart => exact ⟨p, q, rfl, rfl, hp, hq, rfl⟩
  case round =>
    obtain ⟨a, b, rfl, rfl, ha, hb, hG⟩ := hrel
    have HG := Lib.hid hG.out; clear hG
    by_cases h0 : b = 0
    · have hz : (-(b : Int) != 0) = false := by simp [h0]
      have hg : a = Nat.gcd p q := by rw [← HG.out, h0, Nat.gcd_zero_right]
      have Hg := Lib.hid hg; clear hg h0
      go_wp2
      go_ret
      exact ⟨ret_i64 (by rw [← Hg.out]), rfl⟩
    · have hz : (-(b : Int) != 0) = true := by simp [h0]
      have hm : a % b < b := Nat.mod_lt _ (by omega)
      have ht := tmod_neg a b
      go_wp2
      go_round
      case rel => exact ⟨b, a % b, rfl, rfl, hb, by omega, by show Nat.gcd b (a % b) = _; rw [gcd_step2 a b]; exact HG.out⟩
      case measure => simp [intOf]; omega

theorem down_q (n : Int) (h : In64 n) (w : World) : Calls Try.prog 31 #[.int .i64 n] w fun e w' => e = .returned (.int .i64 (-(n.natAbs : Int))) ∧ w' = w := (down_any n h w).mono fun _ _ ⟨a, b⟩ => ⟨a, b.symm⟩
theorem common_q (p q : Nat) (hp : p ≤ 9223372036854775808) (hq : q ≤ 9223372036854775808) (w : World) :
    Calls Try.prog 30 #[.int .i64 (-(p : Int)), .int .i64 (-(q : Int))] w fun e w' => e = .returned (.int .i64 (-((Nat.gcd p q : Nat) : Int))) ∧ w' = w := (common_any p q hp hq w).mono fun _ _ ⟨a, b⟩ => ⟨a, b.symm⟩
theorem tdiv_neg2 (a g : Nat) : (-(a : Int)).tdiv (-(g : Int)) = ((a / g : Nat) : Int) := by
  rw [Int.tdiv_neg, Int.neg_tdiv, Int.neg_neg, Int.tdiv_eq_ediv_of_nonneg (by omega)]; simp
theorem part_any (a g : Nat) (ha : a ≤ 9223372036854775808) (hg : 1 ≤ g) (hg2 : g ≤ 9223372036854775808) (w : World) :
    Calls Try.prog 32 #[.int .i64 (-(a : Int)), .int .i64 (-(g : Int))] w fun e w' => e = .returned (.int .i64 (-((a / g : Nat) : Int))) ∧ w = w' := by
  by_cases h1 : g = 1
  · subst h1
    have hd : a / 1 = a := Nat.div_one a
    rw [hd]; clear hd
    go_enter Try.func32, Try.ntmps32
    go_wp2
    go_ret
    exact ⟨rfl, rfl⟩
  · have hz : (-(g : Int) == -1) = false := by simp; omega
    have hz2 : (-(g : Int) == 0) = false := by simp; omega
    have ht := tdiv_neg2 a g
    have hlt : a / g ≤ 4611686018427387904 := by
      have h2 : a / g ≤ a / 2 := Nat.div_le_div_left (by omega) (by omega)
      omega
    generalize a / g = k at *
    go_enter Try.func32, Try.ntmps32
    go_wp2
    go_ret
    exact ⟨ret_i64 (by omega), rfl⟩

set_option maxHeartbeats 2000000 in
theorem rmake_zero (n : Int) (w : World) : Calls Try.prog 11 #[.int .i64 n, .int .i64 0] w (FrIs (mkF n 0) w) := by
  rw [mkF_zero]
  go_enter Try.func11, Try.ntmps11
  go_wp2
  exact bodyPost_ret (v := .tuple #[.agg #[.int .i64 0, .int .i64 0], .int .i64 1]) (by simp [results, Try.results11, go_sem]) rfl (FrIs.of rfl rfl rfl (by (repeat' first | exact Below.refl _ _ | assumption | (apply below_drewN) | (refine Below.setCell ?_ (by (try simp); (try omega)) _) | (refine Below.alloc ?_ (by (try simp); (try omega)) _) | (refine Below.trans ?_ (Below.mono (Hid.out (by assumption)) (by (try simp); (try omega)))))))

set_option maxHeartbeats 4000000 in
theorem rmake_more (n d : Int) (hn : In64 n) (hd : In64 d) (h0 : d ≠ 0) (w : World) : Calls Try.prog 11 #[.int .i64 n, .int .i64 d] w (FrIs (mkF n d) w) := by
  have hz : (d == 0) = false := by simp [h0]
  have hg1 : 1 ≤ Nat.gcd n.natAbs d.natAbs := by have := gF_pos (n := n) h0; unfold gF at this; omega
  have bn : n.natAbs ≤ 9223372036854775808 := by unfold In64 at hn; omega
  have bd : d.natAbs ≤ 9223372036854775808 := by unfold In64 at hd; omega
  have hg2 : Nat.gcd n.natAbs d.natAbs ≤ 9223372036854775808 := Nat.le_trans (Nat.gcd_le_right _ (by omega)) bd
  have hbig := @mk_big n d h0
  have hfit := @mk_fit n d h0
  have H0 := Lib.hid h0; clear h0
  unfold gF at hbig hfit
  have bP := Nat.div_le_self n.natAbs (Nat.gcd n.natAbs d.natAbs)
  have bQ := Nat.div_le_self d.natAbs (Nat.gcd n.natAbs d.natAbs)
  have rP : ((n.natAbs / Nat.gcd n.natAbs d.natAbs : Nat) : Int) = ((n.natAbs / Nat.gcd n.natAbs d.natAbs : Nat) : Int) := rfl
  have eP : ∃ P : Nat, n.natAbs / Nat.gcd n.natAbs d.natAbs = P := ⟨_, rfl⟩
  have eQ : ∃ Q : Nat, d.natAbs / Nat.gcd n.natAbs d.natAbs = Q := ⟨_, rfl⟩
  obtain ⟨P, eP⟩ := eP
  obtain ⟨Q, eQ⟩ := eQ
  have hpt := fun w => part_any n.natAbs _ bn hg1 hg2 w
  have hqt := fun w => part_any d.natAbs _ bd hg1 hg2 w
  rw [eP] at hbig hfit bP hpt
  rw [eQ] at hbig hfit bQ hqt
  clear rP eP eQ
  have HB := Lib.hid hbig; clear hbig
  have HF := Lib.hid hfit; clear hfit
  have HN := Lib.hid hn; clear hn
  have HD := Lib.hid hd; clear hd
  have HP := Lib.hid hpt; clear hpt
  have HQ := Lib.hid hqt; clear hqt
  have bP2 : (P : Int) ≤ 9223372036854775808 := by omega
  have bQ2 : (Q : Int) ≤ 9223372036854775808 := by omega
  clear bP bQ
  by_cases hP : (1073741824 : Int) < (P : Int)
  · rw [HB.out (.inl (by omega))]
    clear HB HF
    go_enter Try.func11, Try.ntmps11
    go_wp2_with (first | (go_at_call 31; refine (down_any _ (by first | exact HN.out | exact HD.out) _).mono ?_; rintro e w' ⟨rfl, rfl⟩) | (go_at_call 30; refine (common_any _ _ bn bd _).mono ?_; rintro e w' ⟨rfl, rfl⟩) | (go_at_call 32; (with_reducible refine (HP.out _).mono ?_); rintro e w' ⟨rfl, rfl⟩) | (go_at_call 32; (with_reducible refine (HQ.out _).mono ?_); rintro e w' ⟨rfl, rfl⟩))
    exact bodyPost_ret (v := .tuple #[.agg #[.int .i64 0, .int .i64 0], .int .i64 3]) (by simp [results, Try.results11, go_sem]) rfl (FrIs.of rfl rfl rfl (by (repeat' first | exact Below.refl _ _ | assumption | (apply below_drewN) | (refine Below.setCell ?_ (by (try simp); (try omega)) _) | (refine Below.alloc ?_ (by (try simp); (try omega)) _) | (refine Below.trans ?_ (Below.mono (Hid.out (by assumption)) (by (try simp); (try omega)))))))
  · by_cases hQ : (1073741824 : Int) < (Q : Int)
    · rw [HB.out (.inr (by omega))]
      clear HB HF
      go_enter Try.func11, Try.ntmps11
      go_wp2_with (first | (go_at_call 31; refine (down_any _ (by first | exact HN.out | exact HD.out) _).mono ?_; rintro e w' ⟨rfl, rfl⟩) | (go_at_call 30; refine (common_any _ _ bn bd _).mono ?_; rintro e w' ⟨rfl, rfl⟩) | (go_at_call 32; (with_reducible refine (HP.out _).mono ?_); rintro e w' ⟨rfl, rfl⟩) | (go_at_call 32; (with_reducible refine (HQ.out _).mono ?_); rintro e w' ⟨rfl, rfl⟩))
      exact bodyPost_ret (v := .tuple #[.agg #[.int .i64 0, .int .i64 0], .int .i64 3]) (by simp [results, Try.results11, go_sem]) rfl (FrIs.of rfl rfl rfl (by (repeat' first | exact Below.refl _ _ | assumption | (apply below_drewN) | (refine Below.setCell ?_ (by (try simp); (try omega)) _) | (refine Below.alloc ?_ (by (try simp); (try omega)) _) | (refine Below.trans ?_ (Below.mono (Hid.out (by assumption)) (by (try simp); (try omega)))))))
    · have hE := HF.out (by omega) (by omega)
      rw [hE]
      clear HB HF hE
      by_cases h1 : n < 0 <;> by_cases h2 : d < 0
      · rw [if_pos ⟨fun _ => h2, fun _ => h1⟩]
        have t1 : decide (n < 0) = true := by simpa using h1
        have t2 : decide (d < 0) = true := by simpa using h2
        clear h1 h2
        go_enter Try.func11, Try.ntmps11
        go_wp2_with (first | (go_at_call 31; refine (down_any _ (by first | exact HN.out | exact HD.out) _).mono ?_; rintro e w' ⟨rfl, rfl⟩) | (go_at_call 30; refine (common_any _ _ bn bd _).mono ?_; rintro e w' ⟨rfl, rfl⟩) | (go_at_call 32; (with_reducible refine (HP.out _).mono ?_); rintro e w' ⟨rfl, rfl⟩) | (go_at_call 32; (with_reducible refine (HQ.out _).mono ?_); rintro e w' ⟨rfl, rfl⟩))
        exact bodyPost_ret (v := .tuple #[.agg #[.int .i64 ((P : Int)), .int .i64 (Q : Int)], .int .i64 0]) (by simp [results, Try.results11, go_sem]) rfl (FrIs.of rfl rfl rfl (by (repeat' first | exact Below.refl _ _ | assumption | (apply below_drewN) | (refine Below.setCell ?_ (by (try simp); (try omega)) _) | (refine Below.alloc ?_ (by (try simp); (try omega)) _) | (refine Below.trans ?_ (Below.mono (Hid.out (by assumption)) (by (try simp); (try omega)))))))
      · rw [if_neg (fun h => h2 (h.1 h1))]
        have t1 : decide (n < 0) = true := by simpa using h1
        have t2 : decide (d < 0) = false := by simpa using h2
        clear h1 h2
        go_enter Try.func11, Try.ntmps11
        go_wp2_with (first | (go_at_call 31; refine (down_any _ (by first | exact HN.out | exact HD.out) _).mono ?_; rintro e w' ⟨rfl, rfl⟩) | (go_at_call 30; refine (common_any _ _ bn bd _).mono ?_; rintro e w' ⟨rfl, rfl⟩) | (go_at_call 32; (with_reducible refine (HP.out _).mono ?_); rintro e w' ⟨rfl, rfl⟩) | (go_at_call 32; (with_reducible refine (HQ.out _).mono ?_); rintro e w' ⟨rfl, rfl⟩))
        exact bodyPost_ret (v := .tuple #[.agg #[.int .i64 (-(P : Int)), .int .i64 (Q : Int)], .int .i64 0]) (by simp [results, Try.results11, go_sem]) rfl (FrIs.of rfl rfl rfl (by (repeat' first | exact Below.refl _ _ | assumption | (apply below_drewN) | (refine Below.setCell ?_ (by (try simp); (try omega)) _) | (refine Below.alloc ?_ (by (try simp); (try omega)) _) | (refine Below.trans ?_ (Below.mono (Hid.out (by assumption)) (by (try simp); (try omega)))))))
      · rw [if_neg (fun h => h1 (h.2 h2))]
        have t1 : decide (n < 0) = false := by simpa using h1
        have t2 : decide (d < 0) = true := by simpa using h2
        clear h1 h2
        go_enter Try.func11, Try.ntmps11
        go_wp2_with (first | (go_at_call 31; refine (down_any _ (by first | exact HN.out | exact HD.out) _).mono ?_; rintro e w' ⟨rfl, rfl⟩) | (go_at_call 30; refine (common_any _ _ bn bd _).mono ?_; rintro e w' ⟨rfl, rfl⟩) | (go_at_call 32; (with_reducible refine (HP.out _).mono ?_); rintro e w' ⟨rfl, rfl⟩) | (go_at_call 32; (with_reducible refine (HQ.out _).mono ?_); rintro e w' ⟨rfl, rfl⟩))
        exact bodyPost_ret (v := .tuple #[.agg #[.int .i64 (-(P : Int)), .int .i64 (Q : Int)], .int .i64 0]) (by simp [results, Try.results11, go_sem]) rfl (FrIs.of rfl rfl rfl (by (repeat' first | exact Below.refl _ _ | assumption | (apply below_drewN) | (refine Below.setCell ?_ (by (try simp); (try omega)) _) | (refine Below.alloc ?_ (by (try simp); (try omega)) _) | (refine Below.trans ?_ (Below.mono (Hid.out (by assumption)) (by (try simp); (try omega)))))))
      · rw [if_pos ⟨fun h => absurd h h1, fun h => absurd h h2⟩]
        have t1 : decide (n < 0) = false := by simpa using h1
        have t2 : decide (d < 0) = false := by simpa using h2
        clear h1 h2
        go_enter Try.func11, Try.ntmps11
        go_wp2_with (first | (go_at_call 31; refine (down_any _ (by first | exact HN.out | exact HD.out) _).mono ?_; rintro e w' ⟨rfl, rfl⟩) | (go_at_call 30; refine (common_any _ _ bn bd _).mono ?_; rintro e w' ⟨rfl, rfl⟩) | (go_at_call 32; (with_reducible refine (HP.out _).mono ?_); rintro e w' ⟨rfl, rfl⟩) | (go_at_call 32; (with_reducible refine (HQ.out _).mono ?_); rintro e w' ⟨rfl, rfl⟩))
        exact bodyPost_ret (v := .tuple #[.agg #[.int .i64 ((P : Int)), .int .i64 (Q : Int)], .int .i64 0]) (by simp [results, Try.results11, go_sem]) rfl (FrIs.of rfl rfl rfl (by (repeat' first | exact Below.refl _ _ | assumption | (apply below_drewN) | (refine Below.setCell ?_ (by (try simp); (try omega)) _) | (refine Below.alloc ?_ (by (try simp); (try omega)) _) | (refine Below.trans ?_ (Below.mono (Hid.out (by assumption)) (by (try simp); (try omega)))))))

theorem rmake_any (n d : Int) (hn : In64 n) (hd : In64 d) (w : World) : Calls Try.prog 11 #[.int .i64 n, .int .i64 d] w (FrIs (mkF n d) w) := by
  by_cases h0 : d = 0
  · subst h0; exact rmake_zero n w
  · exact rmake_more n d hn hd h0 w

set_option maxHeartbeats 4000000 in
theorem rright_nd (N D : Int) (hN : In64 N) (hD : In64 D) (w : World) : Calls Try.prog 17 #[.agg #[.int .i64 N, .int .i64 D]] w (BlIs (okB ⟨N, D⟩) w) := by
  have HN := Lib.hid hN; clear hN
  have HD := Lib.hid hD; clear hD
  have no : ¬ (1 ≤ D ∧ D ≤ 1073741824 ∧ -1073741824 ≤ N ∧ N ≤ 1073741824) → okB ⟨N, D⟩ = false := fun h => (okB_no _).2 (fun k => h ⟨k.1, k.2.1, k.2.2.1, k.2.2.2.1⟩)
  by_cases c1 : 1 ≤ D
  · by_cases c2 : D ≤ 1073741824
    · by_cases c3 : -1073741824 ≤ N
      · by_cases c4 : N ≤ 1073741824
        · clear no
          have bn : N.natAbs ≤ 9223372036854775808 := by omega
          have bd : D.natAbs ≤ 9223372036854775808 := by omega
          have k1 : decide (1 ≤ D) = true := by simpa using c1
          have k2 : decide (D ≤ 1073741824) = true := by simpa using c2
          have k3 : decide (-1073741824 ≤ N) = true := by simpa using c3
          have k4 : decide (N ≤ 1073741824) = true := by simpa using c4
          by_cases hg : Nat.gcd N.natAbs D.natAbs = 1
          · rw [(okB_iff ⟨N, D⟩).2 ⟨c1, c2, c3, c4, hg⟩]
            have he : (-((Nat.gcd N.natAbs D.natAbs : Nat) : Int) == -1) = true := by rw [hg]; rfl
            clear hg
            go_enter Try.func17, Try.ntmps17
            go_wp2
            go_quiet ((first | (go_at_call 31; exact Calls.quiet_of_same (down_q _ (by first | exact HN.out | exact HD.out) _)) | (go_at_call 30; exact Calls.quiet_of_same (common_q _ _ bn bd _))))
            go_wp2
            go_ret
            exact ⟨rfl, by (repeat' first | exact Below.refl _ _ | assumption | (apply below_drewN) | (refine Below.setCell ?_ (by (try simp); (try omega)) _) | (refine Below.alloc ?_ (by (try simp); (try omega)) _) | (refine Below.trans ?_ (Below.mono (Hid.out (by assumption)) (by (try simp); (try omega)))))⟩
          · rw [(okB_no ⟨N, D⟩).2 (fun h => hg h.2.2.2.2)]
            have he : (-((Nat.gcd N.natAbs D.natAbs : Nat) : Int) == -1) = false := by simp; omega
            clear hg
            go_enter Try.func17, Try.ntmps17
            go_wp2
            go_quiet ((first | (go_at_call 31; exact Calls.quiet_of_same (down_q _ (by first | exact HN.out | exact HD.out) _)) | (go_at_call 30; exact Calls.quiet_of_same (common_q _ _ bn bd _))))
            go_wp2
            go_ret
            exact ⟨rfl, by (repeat' first | exact Below.refl _ _ | assumption | (apply below_drewN) | (refine Below.setCell ?_ (by (try simp); (try omega)) _) | (refine Below.alloc ?_ (by (try simp); (try omega)) _) | (refine Below.trans ?_ (Below.mono (Hid.out (by assumption)) (by (try simp); (try omega)))))⟩
        · rw [no (by omega)]; clear no
          have k1 : decide (1 ≤ D) = true := by simpa using c1
          have k2 : decide (D ≤ 1073741824) = true := by simpa using c2
          have k3 : decide (-1073741824 ≤ N) = true := by simpa using c3
          have k4 : decide (N ≤ 1073741824) = false := by simpa using c4
          go_enter Try.func17, Try.ntmps17
          go_wp2
          go_quiet (fail)
          go_wp2
          go_ret
          exact ⟨rfl, by (repeat' first | exact Below.refl _ _ | assumption | (apply below_drewN) | (refine Below.setCell ?_ (by (try simp); (try omega)) _) | (refine Below.alloc ?_ (by (try simp); (try omega)) _) | (refine Below.trans ?_ (Below.mono (Hid.out (by assumption)) (by (try simp); (try omega)))))⟩
      · rw [no (by omega)]; clear no
        have k1 : decide (1 ≤ D) = true := by simpa using c1
        have k2 : decide (D ≤ 1073741824) = true := by simpa using c2
        have k3 : decide (-1073741824 ≤ N) = false := by simpa using c3
        go_enter Try.func17, Try.ntmps17
        go_wp2
        go_quiet (fail)
        go_wp2
        go_ret
        exact ⟨rfl, by (repeat' first | exact Below.refl _ _ | assumption | (apply below_drewN) | (refine Below.setCell ?_ (by (try simp); (try omega)) _) | (refine Below.alloc ?_ (by (try simp); (try omega)) _) | (refine Below.trans ?_ (Below.mono (Hid.out (by assumption)) (by (try simp); (try omega)))))⟩
    · rw [no (by omega)]; clear no
      have k1 : decide (1 ≤ D) = true := by simpa using c1
      have k2 : decide (D ≤ 1073741824) = false := by simpa using c2
      go_enter Try.func17, Try.ntmps17
      go_wp2
      go_quiet (fail)
      go_wp2
      go_ret
      exact ⟨rfl, by (repeat' first | exact Below.refl _ _ | assumption | (apply below_drewN) | (refine Below.setCell ?_ (by (try simp); (try omega)) _) | (refine Below.alloc ?_ (by (try simp); (try omega)) _) | (refine Below.trans ?_ (Below.mono (Hid.out (by assumption)) (by (try simp); (try omega)))))⟩
  · rw [no (by omega)]; clear no
    have k1 : decide (1 ≤ D) = false := by simpa using c1
    go_enter Try.func17, Try.ntmps17
    go_wp2
    go_quiet (fail)
    go_wp2
    go_ret
    exact ⟨rfl, by (repeat' first | exact Below.refl _ _ | assumption | (apply below_drewN) | (refine Below.setCell ?_ (by (try simp); (try omega)) _) | (refine Below.alloc ?_ (by (try simp); (try omega)) _) | (refine Below.trans ?_ (Below.mono (Hid.out (by assumption)) (by (try simp); (try omega)))))⟩
end Go.Proofs.Ytlkpebcmdkmfjaa
