/-
  Contracts of package ratio's functions on numbers: size, divisor, cmp.Compare, Make, Right.
-/
import Derived.Test.YtlkpebcmdkmfjaaProg
import Derived.Test.YtlkpebcmdkmfjaaQa
import Derived.WalkKit
import Derived.Lib.Hide
import Derived.WalkLawsBesides
import Derived.WalkSpells
import Derived.Outline
import Derived.BigQuiet
import Derived.Deep.QuietTactic
import Derived.OwnWalk
import Derived.Laws.Bits64
set_option linter.unusedVariables false
set_option maxRecDepth 100000
namespace Go.Proofs.Ytlkpebcmdkmfjaa
open Go.RowKit

def In64 (n : Int) : Prop := -9223372036854775808 ≤ n ∧ n ≤ 9223372036854775807

theorem bcell {W w1 : World} (hb : Below W.heap.size W w1) : (∀ b o, b < W.heap.size → w1.cell? ⟨b, o, none⟩ = W.cell? ⟨b, o, none⟩) ∧ (∀ b o, b < W.heap.size → w1.frozen? ⟨b, o, none⟩ = W.frozen? ⟨b, o, none⟩) :=
  ⟨fun b o h => hb.cell (p := ⟨b, o, none⟩) h, fun b o h => hb.frozen (p := ⟨b, o, none⟩) h⟩

theorem ret_u64 {a b : Int} (h : a = b) : Ending.returned (.int .u64 a) = .returned (.int .u64 b) := by rw [h]

theorem size_any (n : Int) (h : In64 n) (w : World) : Calls Try.prog 28 #[.int .i64 n] w fun e w' => e = .returned (.int .u64 (n.natAbs : Int)) ∧ w = w' := by
  obtain ⟨h1, h2⟩ := h
  by_cases hn : n < 0
  · go_enter Try.func28, Try.ntmps28
    go_wp2
    go_ret
    refine ⟨ret_u64 ?_, rfl⟩
    rw [IntKind.wrap_u64, IntKind.wrap_u64]; omega
  · go_enter Try.func28, Try.ntmps28
    go_wp2
    go_ret
    refine ⟨ret_u64 ?_, rfl⟩
    omega

theorem nan_any (n : Int) (w : World) : Calls Try.prog 40 #[.int .i64 n] w fun e w' => e = .returned (.bool false) ∧ w = w' := by
  go_enter Try.func40, Try.ntmps40
  go_wp2
  go_ret
  exact ⟨rfl, rfl⟩

theorem cmp_any (x y : Int) (w : World) : Calls Try.prog 37 #[.int .i64 x, .int .i64 y] w fun e w' => e = .returned (.int .i64 (cmpI x y)) ∧ w = w' := by
  rcases Int.lt_trichotomy x y with h | h | h
  · have hc : cmpI x y = -1 := by unfold cmpI; rw [if_pos h]
    rw [hc]; clear hc
    go_enter Try.func37, Try.ntmps37
    go_wp2_with (go_at_call 40; refine (nan_any _ _).mono ?_; rintro e w' ⟨rfl, rfl⟩)
    go_ret
    exact ⟨rfl, rfl⟩
  · subst h
    rw [(cmpI_zero x x).2 rfl]
    have hl : ¬ x < x := by omega
    go_enter Try.func37, Try.ntmps37
    go_wp2_with (go_at_call 40; refine (nan_any _ _).mono ?_; rintro e w' ⟨rfl, rfl⟩)
    go_ret
    exact ⟨rfl, rfl⟩
  · have hc : cmpI x y = 1 := by unfold cmpI; rw [if_neg (by omega), if_pos h]
    rw [hc]; clear hc
    have hl : ¬ x < y := by omega
    go_enter Try.func37, Try.ntmps37
    go_wp2_with (go_at_call 40; refine (nan_any _ _).mono ?_; rintro e w' ⟨rfl, rfl⟩)
    go_ret
    exact ⟨rfl, rfl⟩

theorem gcd_step (a b : Nat) (h : a ≠ 0) : Nat.gcd (b % a) a = Nat.gcd a b := by
  exact (Nat.gcd_rec a b).symm
set_option maxHeartbeats 1000000 in
theorem divisor_any (p q : Nat) (hp : p ≤ 9223372036854775808) (hq : q ≤ 9223372036854775808) (w : World) :
    Calls Try.prog 29 #[.int .u64 (p : Int), .int .u64 (q : Int)] w fun e w' => e = .returned (.int .u64 (Nat.gcd p q : Nat)) ∧ w = w' := by
  go_enter Try.func29, Try.ntmps29
  go_wp2
  go_loop [0, 1] (fun x y => ∃ a b : Nat, x = .int .u64 (a : Int) ∧ y = .int .u64 (b : Int) ∧ a ≤ 9223372036854775808 ∧ b ≤ 9223372036854775808 ∧ Hid (Nat.gcd a b = Nat.gcd p q)) (fun x _ => (intOf x).toNat)
  case atStart => exact ⟨p, q, rfl, rfl, hp, hq, rfl⟩
  case round =>
    obtain ⟨a, b, rfl, rfl, ha, hb, hG⟩ := hrel
    have HG := Lib.hid hG.out; clear hG
    by_cases h0 : a = 0
    · have hz : ((a : Int) != 0) = false := by simp [h0]
      have hg : b = Nat.gcd p q := by rw [← HG.out, h0, Nat.gcd_zero_left]
      have Hg := Lib.hid hg; clear hg h0
      go_wp2
      go_ret
      exact ⟨ret_u64 (congrArg Nat.cast Hg.out), rfl⟩
    · have hz : ((a : Int) != 0) = true := by simp [h0]
      have ha1 : (1 : Int) ≤ (a : Int) := by omega
      have hm : b % a < a := Nat.mod_lt _ (by omega)
      go_wp2
      go_round
      case rel => exact ⟨b % a, a, by go_num, rfl, by omega, ha, by show Nat.gcd (b % a) a = _; rw [gcd_step a b h0]; exact HG.out⟩
      case measure => simp [intOf]; omega


/-- a fraction as a value. -/
def fv (r : Fr) : Value := .agg #[.int .i64 r.N, .int .i64 r.D]
/-- a fraction and an error, in new memory. -/
def FrIs (x : Fr × Int) (w : World) (e : Ending) (w' : World) : Prop := e = .returned (.tuple #[.agg #[.int .i64 x.1.N, .int .i64 x.1.D], .int .i64 x.2]) ∧ Below w.heap.size w w'
theorem FrIs.of {x : Fr × Int} {w w' : World} {a b c : Int} (ha : a = x.1.N) (hb : b = x.1.D) (hc : c = x.2) (h : Below w.heap.size w w') : FrIs x w (.returned (.tuple #[.agg #[.int .i64 a, .int .i64 b], .int .i64 c])) w' := by
  subst ha; subst hb; subst hc; exact ⟨rfl, h⟩

set_option maxHeartbeats 2000000 in
theorem make_zero (n : Int) (w : World) : Calls Try.prog 10 #[.int .i64 n, .int .i64 0] w (FrIs (mkF n 0) w) := by
  rw [mkF_zero]
  go_enter Try.func10, Try.ntmps10
  go_wp2
  exact bodyPost_ret (v := .tuple #[.agg #[.int .i64 0, .int .i64 0], .int .i64 1]) (by simp [results, Try.results10, go_sem]) rfl (FrIs.of rfl rfl rfl (by (repeat' first | exact Below.refl _ _ | assumption | (apply below_drewN) | (refine Below.setCell ?_ (by (try simp); (try omega)) _) | (refine Below.alloc ?_ (by (try simp); (try omega)) _))))

theorem quot (a g : Nat) : ((a : Int) / (g : Int) = ((a / g : Nat) : Int)) ∧ (a : Int).tdiv (g : Int) = ((a / g : Nat) : Int) := ⟨by simp, by rw [Int.tdiv_eq_ediv_of_nonneg (by omega)]; simp⟩
theorem mk_big {n d : Int} (h0 : d ≠ 0) (h : 1073741824 < n.natAbs / gF n d ∨ 1073741824 < d.natAbs / gF n d) : mkF n d = (zeroF, 3) := by
  unfold mkF; rw [if_neg h0, if_pos h]
theorem mk_fit {n d : Int} (h0 : d ≠ 0) (h : ¬ 1073741824 < n.natAbs / gF n d) (k : ¬ 1073741824 < d.natAbs / gF n d) :
    mkF n d = (⟨if (n < 0 ↔ d < 0) then ((n.natAbs / gF n d : Nat) : Int) else -((n.natAbs / gF n d : Nat) : Int), ((d.natAbs / gF n d : Nat) : Int)⟩, 0) := by
  unfold mkF; rw [if_neg h0, if_neg (by omega)]

set_option maxHeartbeats 4000000 in
theorem make_more (n d : Int) (hn : In64 n) (hd : In64 d) (h0 : d ≠ 0) (w : World) : Calls Try.prog 10 #[.int .i64 n, .int .i64 d] w (FrIs (mkF n d) w) := by
  have hz : (d == 0) = false := by simp [h0]
  have hg1 : (1 : Int) ≤ (Nat.gcd n.natAbs d.natAbs : Nat) := by have := gF_pos (n := n) h0; unfold gF at this; omega
  have bn : n.natAbs ≤ 9223372036854775808 := by unfold In64 at hn; omega
  have bd : d.natAbs ≤ 9223372036854775808 := by unfold In64 at hd; omega
  have hbig := @mk_big n d h0
  have hfit := @mk_fit n d h0
  have H0 := Lib.hid h0; clear h0
  unfold gF at hbig hfit
  obtain ⟨p1, p2⟩ := quot n.natAbs (Nat.gcd n.natAbs d.natAbs)
  obtain ⟨q1, q2⟩ := quot d.natAbs (Nat.gcd n.natAbs d.natAbs)
  have bP := Nat.div_le_self n.natAbs (Nat.gcd n.natAbs d.natAbs)
  have bQ := Nat.div_le_self d.natAbs (Nat.gcd n.natAbs d.natAbs)
  generalize n.natAbs / Nat.gcd n.natAbs d.natAbs = P at *
  generalize d.natAbs / Nat.gcd n.natAbs d.natAbs = Q at *
  have HB := Lib.hid hbig; clear hbig
  have HF := Lib.hid hfit; clear hfit
  have HN := Lib.hid hn; clear hn
  have HD := Lib.hid hd; clear hd
  have hPw : IntKind.u64.wrap (P : Int) = (P : Int) := by rw [IntKind.wrap_u64]; omega
  have hQw : IntKind.u64.wrap (Q : Int) = (Q : Int) := by rw [IntKind.wrap_u64]; omega
  clear bP bQ
  by_cases hP : (1073741824 : Int) < (P : Int)
  · rw [HB.out (.inl (by omega))]
    clear HB HF
    go_enter Try.func10, Try.ntmps10
    go_wp2_with (first | (go_at_call 28; refine (size_any _ (by first | exact HN.out | exact HD.out) _).mono ?_; rintro e w' ⟨rfl, rfl⟩) | (go_at_call 29; refine (divisor_any _ _ bn bd _).mono ?_; rintro e w' ⟨rfl, rfl⟩))
    go_quiet (fail)
    go_wp2
    exact bodyPost_ret (v := .tuple #[.agg #[.int .i64 0, .int .i64 0], .int .i64 3]) (by simp [results, Try.results10, go_sem]) rfl (FrIs.of rfl rfl rfl (by (repeat' first | exact Below.refl _ _ | assumption | (apply below_drewN) | (refine Below.setCell ?_ (by (try simp); (try omega)) _) | (refine Below.alloc ?_ (by (try simp); (try omega)) _))))
  · by_cases hQ : (1073741824 : Int) < (Q : Int)
    · rw [HB.out (.inr (by omega))]
      clear HB HF
      go_enter Try.func10, Try.ntmps10
      go_wp2_with (first | (go_at_call 28; refine (size_any _ (by first | exact HN.out | exact HD.out) _).mono ?_; rintro e w' ⟨rfl, rfl⟩) | (go_at_call 29; refine (divisor_any _ _ bn bd _).mono ?_; rintro e w' ⟨rfl, rfl⟩))
      go_quiet (fail)
      go_wp2
      exact bodyPost_ret (v := .tuple #[.agg #[.int .i64 0, .int .i64 0], .int .i64 3]) (by simp [results, Try.results10, go_sem]) rfl (FrIs.of rfl rfl rfl (by (repeat' first | exact Below.refl _ _ | assumption | (apply below_drewN) | (refine Below.setCell ?_ (by (try simp); (try omega)) _) | (refine Below.alloc ?_ (by (try simp); (try omega)) _))))
    · have hE := HF.out (by omega) (by omega)
      rw [hE]
      clear HB HF hE
      by_cases h1 : n < 0 <;> by_cases h2 : d < 0
      · rw [if_pos ⟨fun _ => h2, fun _ => h1⟩]
        have t1 : decide (n < 0) = true := by simpa using h1
        have t2 : decide (d < 0) = true := by simpa using h2
        clear h1 h2
        go_enter Try.func10, Try.ntmps10
        go_wp2_with (first | (go_at_call 28; refine (size_any _ (by first | exact HN.out | exact HD.out) _).mono ?_; rintro e w' ⟨rfl, rfl⟩) | (go_at_call 29; refine (divisor_any _ _ bn bd _).mono ?_; rintro e w' ⟨rfl, rfl⟩))
        go_quiet (fail)
        go_wp2
        exact bodyPost_ret (v := .tuple #[.agg #[.int .i64 ((P : Int)), .int .i64 (Q : Int)], .int .i64 0]) (by simp [results, Try.results10, go_sem]) rfl (FrIs.of rfl rfl rfl (by (repeat' first | exact Below.refl _ _ | assumption | (apply below_drewN) | (refine Below.setCell ?_ (by (try simp); (try omega)) _) | (refine Below.alloc ?_ (by (try simp); (try omega)) _))))
      · rw [if_neg (fun h => h2 (h.1 h1))]
        have t1 : decide (n < 0) = true := by simpa using h1
        have t2 : decide (d < 0) = false := by simpa using h2
        clear h1 h2
        go_enter Try.func10, Try.ntmps10
        go_wp2_with (first | (go_at_call 28; refine (size_any _ (by first | exact HN.out | exact HD.out) _).mono ?_; rintro e w' ⟨rfl, rfl⟩) | (go_at_call 29; refine (divisor_any _ _ bn bd _).mono ?_; rintro e w' ⟨rfl, rfl⟩))
        go_quiet (fail)
        go_wp2
        exact bodyPost_ret (v := .tuple #[.agg #[.int .i64 (-(P : Int)), .int .i64 (Q : Int)], .int .i64 0]) (by simp [results, Try.results10, go_sem]) rfl (FrIs.of rfl rfl rfl (by (repeat' first | exact Below.refl _ _ | assumption | (apply below_drewN) | (refine Below.setCell ?_ (by (try simp); (try omega)) _) | (refine Below.alloc ?_ (by (try simp); (try omega)) _))))
      · rw [if_neg (fun h => h1 (h.2 h2))]
        have t1 : decide (n < 0) = false := by simpa using h1
        have t2 : decide (d < 0) = true := by simpa using h2
        clear h1 h2
        go_enter Try.func10, Try.ntmps10
        go_wp2_with (first | (go_at_call 28; refine (size_any _ (by first | exact HN.out | exact HD.out) _).mono ?_; rintro e w' ⟨rfl, rfl⟩) | (go_at_call 29; refine (divisor_any _ _ bn bd _).mono ?_; rintro e w' ⟨rfl, rfl⟩))
        go_quiet (fail)
        go_wp2
        exact bodyPost_ret (v := .tuple #[.agg #[.int .i64 (-(P : Int)), .int .i64 (Q : Int)], .int .i64 0]) (by simp [results, Try.results10, go_sem]) rfl (FrIs.of rfl rfl rfl (by (repeat' first | exact Below.refl _ _ | assumption | (apply below_drewN) | (refine Below.setCell ?_ (by (try simp); (try omega)) _) | (refine Below.alloc ?_ (by (try simp); (try omega)) _))))
      · rw [if_pos ⟨fun h => absurd h h1, fun h => absurd h h2⟩]
        have t1 : decide (n < 0) = false := by simpa using h1
        have t2 : decide (d < 0) = false := by simpa using h2
        clear h1 h2
        go_enter Try.func10, Try.ntmps10
        go_wp2_with (first | (go_at_call 28; refine (size_any _ (by first | exact HN.out | exact HD.out) _).mono ?_; rintro e w' ⟨rfl, rfl⟩) | (go_at_call 29; refine (divisor_any _ _ bn bd _).mono ?_; rintro e w' ⟨rfl, rfl⟩))
        go_quiet (fail)
        go_wp2
        exact bodyPost_ret (v := .tuple #[.agg #[.int .i64 ((P : Int)), .int .i64 (Q : Int)], .int .i64 0]) (by simp [results, Try.results10, go_sem]) rfl (FrIs.of rfl rfl rfl (by (repeat' first | exact Below.refl _ _ | assumption | (apply below_drewN) | (refine Below.setCell ?_ (by (try simp); (try omega)) _) | (refine Below.alloc ?_ (by (try simp); (try omega)) _))))

theorem make_any (n d : Int) (hn : In64 n) (hd : In64 d) (w : World) : Calls Try.prog 10 #[.int .i64 n, .int .i64 d] w (FrIs (mkF n d) w) := by
  by_cases h0 : d = 0
  · subst h0; exact make_zero n w
  · exact make_more n d hn hd h0 w
end Go.Proofs.Ytlkpebcmdkmfjaa
