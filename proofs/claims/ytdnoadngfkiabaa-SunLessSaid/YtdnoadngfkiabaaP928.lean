/-
  Mathematics of the laws of layer 9: what stays small; the boxes of a solid.
  Bits of int at .i64: and, or, and not of numbers below 2^63; 1 << i; x >> i. No program in it.
  Mathematics: bits.OnesCount64 step by step; bits of int at .i64 and .u64: and, and not. No program in it.
  Contracts of the reference of layer 11: Valid.
-/
import Derived.Test.YtdnoadngfkiabaaP927
import Derived.Test.YtdnoadngfkiabaaP918
import Derived.ProofKit
import Derived.Laws.BitsAllLaws
import Derived.IntWalk
import Derived.Test.YtdnoadngfkiabaaP925
import Derived.Test.YtdnoadngfkiabaaP917
set_option linter.unusedVariables false
set_option maxRecDepth 100000
namespace Go.Proofs.Ytdnoadngfkiabaa

/-! ### the boxes of a solid -/
end Go.Proofs.Ytdnoadngfkiabaa
namespace Go.Proofs.Ytdnoadngfkiabaa
open Go

theorem i64_and_nat (a b : Nat) (ha : a < 9223372036854775808) (hb : b < 9223372036854775808) : bits .and .i64 (a : Int) (b : Int) = ((a &&& b : Nat) : Int) := by
  have hx : a &&& b < 2 ^ 63 := Nat.and_lt_two_pow _ (by omega)
  show IntKind.i64.wrap ((BitVec.ofInt 64 (a : Int) &&& BitVec.ofInt 64 (b : Int)).toNat : Int) = _
  rw [BitVec.toNat_and, ofInt_u64 a (by omega), ofInt_u64 b (by omega)]
  exact IntWalk.i64_in _ (by omega)
end Go.Proofs.Ytdnoadngfkiabaa
namespace Go.Proofs.Ytdnoadngfkiabaa
open Go

/-- the sum of n digits of k bits. -/
def dsum (k : Nat) : Nat → Nat → Nat
  | 0, _ => 0
  | n + 1, x => x % 2 ^ k + dsum k n (x / 2 ^ k)
theorem pop_dsum (n x : Nat) : popN n x = dsum 1 n x := by
  induction n generalizing x with
  | zero => rfl
  | succ n ih =>
    rw [popN_half, dsum, ih, Nat.testBit_zero, Nat.pow_one]
    have := Nat.mod_lt x (show 0 < 2 by decide)
    by_cases h : x % 2 = 1
    · simp [h]
    · have h0 : x % 2 = 0 := by omega
      simp [h0]
/-- the lower k bits of each of n digits of 2 k bits. -/
def lowM (k : Nat) : Nat → Nat
  | 0 => 0
  | n + 1 => (2 ^ k - 1) + 2 ^ (2 * k) * lowM k n
theorem and_low (k n x : Nat) : x &&& lowM k (n + 1) = x % 2 ^ k + 2 ^ (2 * k) * (x / 2 ^ (2 * k) &&& lowM k n) := by
  have hp : 0 < 2 ^ k := Nat.pow_pos (by decide)
  have hle : 2 ^ k ≤ 2 ^ (2 * k) := Nat.pow_le_pow_right (by decide) (by omega)
  have hq : 0 < 2 ^ (2 * k) := Nat.pow_pos (by decide)
  have e1 : lowM k (n + 1) / 2 ^ (2 * k) = lowM k n := by
    rw [lowM, Nat.add_mul_div_left _ _ hq, Nat.div_eq_of_lt (by omega), Nat.zero_add]
  have e2 : lowM k (n + 1) % 2 ^ (2 * k) = 2 ^ k - 1 := by
    rw [lowM, Nat.add_mul_mod_self_left, Nat.mod_eq_of_lt (by omega)]
  have h := Nat.div_add_mod (x &&& lowM k (n + 1)) (2 ^ (2 * k))
  rw [Nat.and_div_two_pow, Nat.and_mod_two_pow, e1, e2, Nat.and_two_pow_sub_one_eq_mod, Nat.mod_mod_of_dvd _ (Nat.pow_dvd_pow 2 (by omega))] at h
  omega
/-- neighbouring digits added. -/
def pairS (k n x : Nat) : Nat := (x / 2 ^ k &&& lowM k n) + (x &&& lowM k n)
theorem pairS_succ (k n x : Nat) : pairS k (n + 1) x = (x / 2 ^ k % 2 ^ k + x % 2 ^ k) + 2 ^ (2 * k) * pairS k n (x / 2 ^ (2 * k)) := by
  unfold pairS
  rw [and_low, and_low, Nat.div_div_eq_div_mul, Nat.div_div_eq_div_mul, Nat.mul_comm (2 ^ k), Nat.mul_add]
  omega
theorem pair_dsum (k : Nat) (hk : 1 ≤ k) : ∀ (n x : Nat), dsum k (2 * n) x = dsum (2 * k) n (pairS k n x)
  | 0, _ => rfl
  | n + 1, x => by
    have hp : 0 < 2 ^ k := Nat.pow_pos (by decide)
    have hq : 0 < 2 ^ (2 * k) := Nat.pow_pos (by decide)
    have e2 : 2 ^ (2 * k) = 2 ^ k * 2 ^ k := by rw [← Nat.pow_add]; congr 1; omega
    have h2 : 2 ≤ 2 ^ k := by have := Nat.pow_le_pow_right (show 0 < 2 by decide) hk; omega
    have hs : x / 2 ^ k % 2 ^ k + x % 2 ^ k < 2 ^ (2 * k) := by
      have a := Nat.mod_lt (x / 2 ^ k) hp
      have b := Nat.mod_lt x hp
      have c : 2 * 2 ^ k ≤ 2 ^ (2 * k) := by rw [e2]; exact Nat.mul_le_mul_right _ h2
      omega
    rw [show 2 * (n + 1) = (2 * n + 1) + 1 by omega, dsum, dsum, dsum, pairS_succ, Nat.add_mul_mod_self_left, Nat.mod_eq_of_lt hs, Nat.add_mul_div_left _ _ hq, Nat.div_eq_of_lt hs, Nat.zero_add, Nat.div_div_eq_div_mul, ← e2, pair_dsum k hk n]
    omega
theorem pairS_bd (k : Nat) (hk : 1 ≤ k) (n x : Nat) : pairS k n x < 2 ^ (2 * k * n) := by
  induction n generalizing x with
  | zero => simp [pairS, lowM]
  | succ n ih =>
    have hp : 0 < 2 ^ k := Nat.pow_pos (by decide)
    have e2 : 2 ^ (2 * k) = 2 ^ k * 2 ^ k := by rw [← Nat.pow_add]; congr 1; omega
    have h2 : 2 ≤ 2 ^ k := by have := Nat.pow_le_pow_right (show 0 < 2 by decide) hk; omega
    have a := Nat.mod_lt (x / 2 ^ k) hp
    have b := Nat.mod_lt x hp
    have c : 2 * 2 ^ k ≤ 2 ^ (2 * k) := by rw [e2]; exact Nat.mul_le_mul_right _ h2
    have i := ih (x / 2 ^ (2 * k))
    rw [pairS_succ, show 2 * k * (n + 1) = 2 * k + 2 * k * n by rw [Nat.mul_add]; omega, Nat.pow_add]
    have j : 2 ^ (2 * k) * (pairS k n (x / 2 ^ (2 * k)) + 1) ≤ 2 ^ (2 * k) * 2 ^ (2 * k * n) := Nat.mul_le_mul_left _ i
    rw [Nat.mul_add, Nat.mul_one] at j
    omega
/-- a number by its digits. -/
def ofD (B : Nat) : List Nat → Nat
  | [] => 0
  | d :: l => d + B * ofD B l
theorem pair_digits : ∀ (n x : Nat), ∃ l : List Nat, pairS 2 n x = ofD 16 l ∧ l.length = n ∧ (∀ d ∈ l, d ≤ 6) ∧ dsum 4 n (pairS 2 n x) = l.sum
  | 0, x => ⟨[], by simp [pairS, lowM, ofD], rfl, by simp, rfl⟩
  | n + 1, x => by
    obtain ⟨l, h1, h2, h3, h4⟩ := pair_digits n (x / 2 ^ (2 * 2))
    have a := Nat.mod_lt (x / 2 ^ 2) (show 0 < 2 ^ 2 by decide)
    have b := Nat.mod_lt x (show 0 < 2 ^ 2 by decide)
    have e := pairS_succ 2 n x
    refine ⟨(x / 2 ^ 2 % 2 ^ 2 + x % 2 ^ 2) :: l, ?_, by simp [h2], ?_, ?_⟩
    · rw [e, h1]; rfl
    · intro d hd
      rcases List.mem_cons.1 hd with rfl | hd
      · omega
      · exact h3 d hd
    · rw [dsum, List.sum_cons, ← h4, e]
      have : (x / 2 ^ 2 % 2 ^ 2 + x % 2 ^ 2 + 2 ^ (2 * 2) * pairS 2 n (x / 2 ^ (2 * 2))) / 2 ^ 4 = pairS 2 n (x / 2 ^ (2 * 2)) := by omega
      rw [this]; omega
theorem nib_step {d0 d1 X L d2 y : Nat} (h0 : d0 ≤ 6) (h1 : d1 ≤ 6) (h2 : d2 ≤ 6) (hx : X = d0 + 16 * (d1 + 16 * L)) (hL : L = d2 + 16 * y) (n : Nat) : (X / 16 + X) &&& lowM 4 (n + 1) = (d0 + d1) + 256 * ((L / 16 + L) &&& lowM 4 n) := by
  have e0 : X / 16 = d1 + 16 * (d2 + 16 * y) := by omega
  have e3 : L / 16 = y := by omega
  have e1 : (X / 16 + X) % 2 ^ 4 = d0 + d1 := by rw [e0]; omega
  have e2 : (X / 16 + X) / 2 ^ (2 * 4) = L / 16 + L := by rw [e0, e3]; omega
  rw [and_low, e1, e2]
theorem nib_list : ∀ (n : Nat) (l : List Nat), l.length = 2 * n → (∀ d ∈ l, d ≤ 6) → ∃ m : List Nat, (ofD 16 l / 16 + ofD 16 l) &&& lowM 4 n = ofD 256 m ∧ m.length = n ∧ (∀ d ∈ m, d ≤ 12) ∧ m.sum = l.sum
  | 0, l, h, _ => by
    obtain rfl : l = [] := List.length_eq_zero_iff.1 (by omega)
    exact ⟨[], by simp [lowM, ofD], rfl, by simp, rfl⟩
  | n + 1, [], h, _ => by simp at h
  | n + 1, [d], h, _ => by simp at h; omega
  | n + 1, d0 :: d1 :: l, h, hd => by
    obtain ⟨m, h1, h2, h3, h4⟩ := nib_list n l (by simp at h; omega) (fun d k => hd d (by simp [k]))
    obtain ⟨d2, y, e, he⟩ : ∃ d2 y, ofD 16 l = d2 + 16 * y ∧ d2 ≤ 6 := by
      cases l with
      | nil => exact ⟨0, 0, rfl, by omega⟩
      | cons d l => exact ⟨d, ofD 16 l, rfl, hd d (by simp)⟩
    have a0 := hd d0 (by simp)
    have a1 := hd d1 (by simp)
    refine ⟨(d0 + d1) :: m, ?_, by simp [h2], ?_, ?_⟩
    · exact (nib_step (X := ofD 16 (d0 :: d1 :: l)) a0 a1 he rfl e n).trans (by rw [h1]; rfl)
    · intro d k
      rcases List.mem_cons.1 k with rfl | k
      · omega
      · exact h3 d k
    · simp only [List.sum_cons, h4]; omega
theorem len_cons {l : List Nat} {n : Nat} (h : l.length = n + 1) : ∃ a m, l = a :: m ∧ m.length = n := by
  cases l with
  | nil => simp at h
  | cons a m => exact ⟨a, m, rfl, by simpa using h⟩
theorem dv1 {z a r : Nat} (h : z = a + 256 * r) (ha : a < 256) : z / 256 = r := by omega
theorem dv2 {z a b r : Nat} (h : z = a + 256 * (b + 256 * r)) (ha : a < 256) (hb : b < 256) : z / 65536 = r := by omega
theorem dv4 {z a b c d r : Nat} (h : z = a + 256 * (b + 256 * (c + 256 * (d + 256 * r)))) (ha : a < 256) (hb : b < 256) (hc : c < 256) (hd : d < 256) : z / 4294967296 = r := by omega
theorem sh1 {a b c d e f g i : Nat} : a + 256 * (b + 256 * (c + 256 * (d + 256 * (e + 256 * (f + 256 * (g + 256 * i)))))) + (b + 256 * (c + 256 * (d + 256 * (e + 256 * (f + 256 * (g + 256 * i)))))) = (a + b) + 256 * ((b + c) + 256 * ((c + d) + 256 * ((d + e) + 256 * ((e + f) + 256 * ((f + g) + 256 * ((g + i) + 256 * i)))))) := by omega
theorem sh2 {a b c d e f g i : Nat} : a + 256 * (b + 256 * (c + 256 * (d + 256 * (e + 256 * (f + 256 * (g + 256 * i)))))) + (c + 256 * (d + 256 * (e + 256 * (f + 256 * (g + 256 * i))))) = (a + c) + 256 * ((b + d) + 256 * ((c + e) + 256 * ((d + f) + 256 * ((e + g) + 256 * ((f + i) + 256 * (g + 256 * i)))))) := by omega
theorem sh4 {a b c d e f g i : Nat} : a + 256 * (b + 256 * (c + 256 * (d + 256 * (e + 256 * (f + 256 * (g + 256 * i)))))) + (e + 256 * (f + 256 * (g + 256 * i))) = (a + e) + 256 * ((b + f) + 256 * ((c + g) + 256 * ((d + i) + 256 * (e + 256 * (f + 256 * (g + 256 * i)))))) := by omega
theorem lt8 {z a b c d e f g i : Nat} (h : z = a + 256 * (b + 256 * (c + 256 * (d + 256 * (e + 256 * (f + 256 * (g + 256 * i))))))) (ha : a < 256) (hb : b < 256) (hc : c < 256) (hd : d < 256) (he : e < 256) (hf : f < 256) (hg : g < 256) (hi : i ≤ 12) : z < 2 ^ 60 := by omega
theorem bytes_sum {a b c d e f g i : Nat} (ha : a ≤ 12) (hb : b ≤ 12) (hc : c ≤ 12) (hd : d ≤ 12) (he : e ≤ 12) (hf : f ≤ 12) (hg : g ≤ 12) (hi : i ≤ 12) {z z1 z2 z3 : Nat}
    (hz : z = a + 256 * (b + 256 * (c + 256 * (d + 256 * (e + 256 * (f + 256 * (g + 256 * i)))))))
    (h1 : z1 = z + z / 256) (h2 : z2 = z1 + z1 / 65536) (h3 : z3 = z2 + z2 / 4294967296) : z < 2 ^ 60 ∧ z1 < 2 ^ 60 ∧ z2 < 2 ^ 60 ∧ z3 < 2 ^ 60 ∧ z3 % 128 = a + b + c + d + e + f + g + i := by
  have k0 := lt8 hz (Nat.lt_of_le_of_lt ha (by decide)) (Nat.lt_of_le_of_lt hb (by decide)) (Nat.lt_of_le_of_lt hc (by decide)) (Nat.lt_of_le_of_lt hd (by decide)) (Nat.lt_of_le_of_lt he (by decide)) (Nat.lt_of_le_of_lt hf (by decide)) (Nat.lt_of_le_of_lt hg (by decide)) hi
  rw [dv1 hz (Nat.lt_of_le_of_lt ha (by decide)), hz, sh1] at h1
  have ab : a + b ≤ 24 := by clear hz h1 h2 h3 k0; omega
  have bc : b + c ≤ 24 := by clear hz h1 h2 h3 k0; omega
  have cd : c + d ≤ 24 := by clear hz h1 h2 h3 k0; omega
  have de : d + e ≤ 24 := by clear hz h1 h2 h3 k0; omega
  have ef : e + f ≤ 24 := by clear hz h1 h2 h3 k0; omega
  have fg : f + g ≤ 24 := by clear hz h1 h2 h3 k0; omega
  have gi : g + i ≤ 24 := by clear hz h1 h2 h3 k0; omega
  have k1 := lt8 h1 (Nat.lt_of_le_of_lt ab (by decide)) (Nat.lt_of_le_of_lt bc (by decide)) (Nat.lt_of_le_of_lt cd (by decide)) (Nat.lt_of_le_of_lt de (by decide)) (Nat.lt_of_le_of_lt ef (by decide)) (Nat.lt_of_le_of_lt fg (by decide)) (Nat.lt_of_le_of_lt gi (by decide)) hi
  rw [dv2 h1 (Nat.lt_of_le_of_lt ab (by decide)) (Nat.lt_of_le_of_lt bc (by decide)), h1, sh2] at h2
  have ad : a + b + (c + d) ≤ 48 := Nat.add_le_add ab cd
  have be : b + c + (d + e) ≤ 48 := Nat.add_le_add bc de
  have cf : c + d + (e + f) ≤ 48 := Nat.add_le_add cd ef
  have dg : d + e + (f + g) ≤ 48 := Nat.add_le_add de fg
  have ei : e + f + (g + i) ≤ 48 := Nat.add_le_add ef gi
  have fi : f + g + i ≤ 36 := Nat.add_le_add fg hi
  have k2 := lt8 h2 (Nat.lt_of_le_of_lt ad (by decide)) (Nat.lt_of_le_of_lt be (by decide)) (Nat.lt_of_le_of_lt cf (by decide)) (Nat.lt_of_le_of_lt dg (by decide)) (Nat.lt_of_le_of_lt ei (by decide)) (Nat.lt_of_le_of_lt fi (by decide)) (Nat.lt_of_le_of_lt gi (by decide)) hi
  rw [dv4 h2 (Nat.lt_of_le_of_lt ad (by decide)) (Nat.lt_of_le_of_lt be (by decide)) (Nat.lt_of_le_of_lt cf (by decide)) (Nat.lt_of_le_of_lt dg (by decide)), h2, sh4] at h3
  have t0 : a + b + (c + d) + (e + f + (g + i)) ≤ 96 := Nat.add_le_add ad ei
  have t1 : b + c + (d + e) + (f + g + i) ≤ 84 := Nat.add_le_add be fi
  have t2 : c + d + (e + f) + (g + i) ≤ 72 := Nat.add_le_add cf gi
  have t3 : d + e + (f + g) + i ≤ 60 := Nat.add_le_add dg hi
  have k3 := lt8 h3 (Nat.lt_of_le_of_lt t0 (by decide)) (Nat.lt_of_le_of_lt t1 (by decide)) (Nat.lt_of_le_of_lt t2 (by decide)) (Nat.lt_of_le_of_lt t3 (by decide)) (Nat.lt_of_le_of_lt ei (by decide)) (Nat.lt_of_le_of_lt fi (by decide)) (Nat.lt_of_le_of_lt gi (by decide)) hi
  refine ⟨k0, k1, k2, k3, ?_⟩
  rw [h3]
  clear hz h1 h2 h3 k0 k1 k2 k3 ha hb hc hd he hf hg hi ab bc cd de ef fg gi ad be cf dg ei fi t1 t2 t3
  generalize b + c + (d + e) + (f + g + i) + 256 * _ = R
  omega
theorem ofD_le : ∀ (l : List Nat), (∀ d ∈ l, d ≤ 6) → ofD 16 l * 15 + 6 ≤ 6 * 16 ^ l.length
  | [], _ => by simp [ofD]
  | d :: l, h => by
    have a := ofD_le l (fun e k => h e (by simp [k]))
    have b := h d (by simp)
    rw [List.length_cons, Nat.pow_succ, ofD]
    omega
/-- bits.OnesCount64, step by step. -/
theorem pop64 {x x1 x2 x3 x4 x5 x6 : Nat} (h : x < 2 ^ 64) (h1 : x1 = (x / 2 &&& 6148914691236517205) + (x &&& 6148914691236517205)) (h2 : x2 = (x1 / 4 &&& 3689348814741910323) + (x1 &&& 3689348814741910323))
    (h3 : x3 = (x2 / 16 + x2) &&& 1085102592571150095) (h4 : x4 = x3 + x3 / 256) (h5 : x5 = x4 + x4 / 65536) (h6 : x6 = x5 + x5 / 4294967296) :
    x1 < 2 ^ 64 ∧ x2 < 2 ^ 63 ∧ x2 / 16 + x2 < 2 ^ 63 ∧ x3 < 2 ^ 60 ∧ x4 < 2 ^ 60 ∧ x5 < 2 ^ 60 ∧ x6 < 2 ^ 60 ∧ x6 % 128 = popN 64 x := by
  have e1 : x1 = pairS 1 32 x := h1
  have e2 : x2 = pairS 2 16 x1 := h2
  have b1 : x1 < 2 ^ 64 := by rw [e1]; exact pairS_bd 1 (by decide) 32 x
  obtain ⟨l, l1, l2, l3, l4⟩ := pair_digits 16 x1
  obtain ⟨m, m1, m2, m3, m4⟩ := nib_list 8 l l2 l3
  have p : popN 64 x = m.sum := by
    rw [m4, ← l4, ← e2, pop_dsum, e2]
    have q1 := pair_dsum 1 (by decide) 32 x
    have q2 := pair_dsum 2 (by decide) 16 x1
    rw [← e1] at q1
    exact q1.trans q2
  have c3 : x3 = ofD 256 m := by rw [h3, e2, l1]; exact m1
  obtain ⟨a, mm0, rfl, ml0⟩ := len_cons m2
  obtain ⟨b, mm1, rfl, ml1⟩ := len_cons ml0
  obtain ⟨c, mm2, rfl, ml2⟩ := len_cons ml1
  obtain ⟨d, mm3, rfl, ml3⟩ := len_cons ml2
  obtain ⟨e, mm4, rfl, ml4⟩ := len_cons ml3
  obtain ⟨f, mm5, rfl, ml5⟩ := len_cons ml4
  obtain ⟨g, mm6, rfl, ml6⟩ := len_cons ml5
  obtain ⟨i, mm7, rfl, ml7⟩ := len_cons ml6
  obtain rfl : mm7 = [] := List.length_eq_zero_iff.1 ml7
  have c0 : x3 = a + 256 * (b + 256 * (c + 256 * (d + 256 * (e + 256 * (f + 256 * (g + 256 * i)))))) := c3
  have r := bytes_sum (m3 a (by simp)) (m3 b (by simp)) (m3 _ (by simp)) (m3 d (by simp)) (m3 e (by simp)) (m3 f (by simp)) (m3 g (by simp)) (m3 i (by simp)) c0 h4 h5 h6
  have b3 : x2 * 15 + 6 ≤ 6 * 16 ^ 16 := by
    have := ofD_le l l3
    rw [l2, ← l1, ← e2] at this; exact this
  have b2 : x2 < 2 ^ 63 := by clear h1 h2 h3 h4 h5 h6 r c0 c3 p l1 l4 m1 m4 b1 h e1 e2; omega
  refine ⟨b1, b2, ?_, r.1, r.2.1, r.2.2.1, r.2.2.2.1, ?_⟩
  · clear h1 h2 h3 h4 h5 h6 r c0 c3 p l1 l4 m1 m4 b1 h e1 e2; omega
  · have r5 := r.2.2.2.2
    clear r b1 b2 b3 h1 h2 h3 h4 h5 h6 e1 e2 c0 c3 l1 l2 l3 l4 m1 m3 m4 h
    rw [p, r5]; simp only [List.sum_cons, List.sum_nil]; omega
/-! ### bits -/
theorem u64_and_nat (a b : Nat) (ha : a < 18446744073709551616) (hb : b < 18446744073709551616) : bits .and .u64 (a : Int) (b : Int) = ((a &&& b : Nat) : Int) := by
  have hx : a &&& b < 2 ^ 64 := Nat.and_lt_two_pow _ (by omega)
  show IntKind.u64.wrap ((BitVec.ofInt 64 (a : Int) &&& BitVec.ofInt 64 (b : Int)).toNat : Int) = _
  rw [BitVec.toNat_and, ofInt_u64 a (by omega), ofInt_u64 b (by omega)]
  exact IntWalk.u64_in _ (by omega)
theorem bv_andnot (x y : BitVec 64) : x &&& ~~~y = x ^^^ (x &&& y) := by
  ext i h
  simp
  cases x[i] <;> cases y[i] <;> rfl
theorem i64_andnot_nat (a b : Nat) (ha : a < 9223372036854775808) (hb : b < 9223372036854775808) : bits .andNot .i64 (a : Int) (b : Int) = ((a ^^^ (a &&& b) : Nat) : Int) := by
  have hx : a &&& b < 2 ^ 63 := Nat.and_lt_two_pow _ (by omega)
  have hy : a ^^^ (a &&& b) < 2 ^ 63 := Nat.xor_lt_two_pow (by omega) hx
  show IntKind.i64.wrap ((BitVec.ofInt 64 (a : Int) &&& ~~~(BitVec.ofInt 64 (b : Int))).toNat : Int) = _
  rw [bv_andnot, BitVec.toNat_xor, BitVec.toNat_and, ofInt_u64 a (by omega), ofInt_u64 b (by omega)]
  exact IntWalk.i64_in _ (by omega)
theorem i64_and_max (x : Int) : bits .and .i64 x 9223372036854775807 = x % 9223372036854775808 := by
  show IntKind.i64.wrap ((BitVec.ofInt 64 x &&& BitVec.ofInt 64 ((9223372036854775807 : Nat) : Int)).toNat : Int) = _
  rw [BitVec.toNat_and, ofInt_u64 9223372036854775807 (by omega), show (9223372036854775807 : Nat) = 2 ^ 63 - 1 by decide, Nat.and_two_pow_sub_one_eq_mod, BitVec.toNat_ofInt]
  have h : (((x % ((2 ^ 64 : Nat) : Int)).toNat % 2 ^ 63 : Nat) : Int) = x % 9223372036854775808 := by omega
  rw [h]
  exact IntWalk.i64_in _ (by omega)
theorem i64_and_one (x : Int) : bits .and .i64 x 1 = x % 2 := by
  show IntKind.i64.wrap ((BitVec.ofInt 64 x &&& BitVec.ofInt 64 ((1 : Nat) : Int)).toNat : Int) = _
  rw [BitVec.toNat_and, ofInt_u64 1 (by omega), Nat.and_one_is_mod, BitVec.toNat_ofInt]
  have h : (((x % ((2 ^ 64 : Nat) : Int)).toNat % 2 : Nat) : Int) = x % 2 := by omega
  rw [h]
  exact IntWalk.i64_in _ (by omega)
theorem i64_and_127 (a : Nat) (h : a < 9223372036854775808) : bits .and .i64 (a : Int) 127 = ((a % 128 : Nat) : Int) := by
  have e := i64_and_nat a 127 h (by omega)
  rw [show (127 : Nat) = 2 ^ 7 - 1 by decide, Nat.and_two_pow_sub_one_eq_mod] at e
  exact e
/-! ### how many bits a number has below the sign's -/
def lowN (m : Int) : Nat := (m % 9223372036854775808).toNat
theorem lowN_lt (m : Int) : lowN m < 9223372036854775808 := by unfold lowN; omega
theorem lowN_nat (m : Nat) (h : m < 9223372036854775808) : lowN (m : Int) = m := by unfold lowN; omega
/-- how many. -/
def cntI (m : Int) : Int := (popN 63 (lowN m) : Nat)
theorem pop_more (x : Nat) (k : Nat) (h : x < 2 ^ k) : popN (k + 1) x = popN k x := by
  rw [popN, Nat.testBit_lt_two_pow h]; simp
theorem popN_le (k m : Nat) : popN k m ≤ k := by
  induction k with
  | zero => simp [popN]
  | succ k ih => rw [popN]; split <;> omega
/-! ### lists of Booleans as masks -/
def minus2 (l m : List Bool) : List Bool := List.zipWith (fun a b => a && !b) l m
theorem mskN_minus {la lb : List Bool} (hl : la.length = lb.length) : mskN la ^^^ (mskN la &&& mskN lb) = mskN (minus2 la lb) := by
  apply Nat.eq_of_testBit_eq
  intro i
  unfold minus2
  rw [Nat.testBit_xor, Nat.testBit_and, mskN_bit, mskN_bit, mskN_bit]
  simp only [List.getD_eq_getElem?_getD, List.getElem?_zipWith]
  by_cases h : i < la.length
  · rw [List.getElem?_eq_getElem h, List.getElem?_eq_getElem (hl ▸ h)]
    simp only [Option.getD_some]
    cases la[i] <;> cases lb[i] <;> rfl
  · rw [List.getElem?_eq_none (by omega), List.getElem?_eq_none (by omega)]; rfl
theorem mskN_set (lb : List Bool) (i : Nat) (h : i < lb.length) : mskN lb ^^^ (mskN lb &&& 2 ^ i) = mskN (lb.set i false) := by
  apply Nat.eq_of_testBit_eq
  intro j
  rw [Nat.testBit_xor, Nat.testBit_and, mskN_bit, mskN_bit, Nat.testBit_two_pow]
  simp only [List.getD_eq_getElem?_getD, List.getElem?_set]
  by_cases e : i = j
  · subst e; simp [h]
  · simp [e]
theorem mskN_full (n : Nat) : mskN (List.replicate n true) = 2 ^ n - 1 := by
  induction n with
  | zero => rfl
  | succ n ih =>
    have : 0 < 2 ^ n := Nat.pow_pos (by decide)
    rw [List.replicate_succ, mskN_t, ih, Nat.pow_succ]; omega
theorem mskN_lt24 {lb : List Bool} (h : lb.length ≤ 24) : mskN lb < 16777217 := by
  have a := mskN_lt lb
  have b : 2 ^ lb.length ≤ 2 ^ 24 := Nat.pow_le_pow_right (by decide) h
  omega
theorem lt_pow24 {i : Nat} (h : i < 24) : 2 ^ i < 16777216 := by
  have b : 2 ^ i < 2 ^ 24 := Nat.pow_lt_pow_right (by decide) h
  omega
/-- the program's loop: the mask behind i directions. -/
def partB (lb f : List Bool) (i : Nat) : List Bool := List.zipWith (fun a b => a && b) (lb.take i) (f.take i) ++ lb.drop i
theorem partB_len {lb f : List Bool} (hl : lb.length = f.length) (i : Nat) : (partB lb f i).length = lb.length := by
  unfold partB
  simp only [List.length_append, List.length_zipWith, List.length_take, List.length_drop]; omega
theorem partB_zero (lb f : List Bool) : partB lb f 0 = lb := by simp [partB]
theorem partB_all {lb f : List Bool} (hl : lb.length = f.length) : partB lb f lb.length = List.zipWith (fun a b => a && b) lb f := by
  unfold partB
  rw [List.take_length, List.drop_length, List.append_nil, hl, List.take_length]
theorem partB_at {lb f : List Bool} (hl : lb.length = f.length) (i j : Nat) (hj : j < lb.length) : (partB lb f i)[j]? = some (if j < i then (lb[j] && f[j]) else lb[j]) := by
  unfold partB
  have hlz : (List.zipWith (fun a b => a && b) (lb.take i) (f.take i)).length = min i lb.length := by simp only [List.length_zipWith, List.length_take]; omega
  by_cases h : j < i
  · rw [List.getElem?_append_left (by rw [hlz]; omega), List.getElem?_zipWith, List.getElem?_take_of_lt h, List.getElem?_take_of_lt h, List.getElem?_eq_getElem hj, List.getElem?_eq_getElem (by omega), if_pos h]
  · rw [List.getElem?_append_right (by rw [hlz]; omega), hlz, List.getElem?_drop, if_neg h, show i + (j - min i lb.length) = j by omega, List.getElem?_eq_getElem hj]
theorem partB_next {lb f : List Bool} (hl : lb.length = f.length) (i : Nat) (hi : i < lb.length) : partB lb f (i + 1) = if (lb[i] && !f[i]) = true then (partB lb f i).set i false else partB lb f i := by
  apply List.ext_getElem?
  intro j
  by_cases hj : j < lb.length
  · rw [partB_at hl _ j hj]
    by_cases c : (lb[i] && !f[i]) = true
    · rw [if_pos c, List.getElem?_set]
      by_cases e : i = j
      · subst e
        rw [if_pos (Nat.lt_succ_self i), if_pos rfl, if_pos (show i < (partB lb f i).length by rw [partB_len hl]; exact hi)]
        simp only [Bool.and_eq_true, Bool.not_eq_true'] at c
        rw [c.2, Bool.and_false]
      · rw [if_neg e, partB_at hl _ j hj]
        by_cases h : j < i
        · rw [if_pos h, if_pos (by omega)]
        · rw [if_neg h, if_neg (by omega)]
    · rw [if_neg c, partB_at hl _ j hj]
      by_cases e : i = j
      · subst e
        simp only [Nat.lt_succ_self, Nat.lt_irrefl, if_true, if_false]
        cases k : lb[i] <;> cases k2 : f[i] <;> simp_all
      · by_cases h : j < i
        · rw [if_pos h, if_pos (by omega)]
        · rw [if_neg h, if_neg (by omega)]
  · have a : (partB lb f (i + 1))[j]? = none := List.getElem?_eq_none (by rw [partB_len hl]; omega)
    rw [a]
    split
    · exact (List.getElem?_eq_none (by rw [List.length_set, partB_len hl]; omega)).symm
    · exact (List.getElem?_eq_none (by rw [partB_len hl]; omega)).symm
theorem partB_bit {lb f : List Bool} (hl : lb.length = f.length) (i : Nat) (hi : i < lb.length) : (partB lb f i).getD i false = lb[i] := by
  rw [List.getD_eq_getElem?_getD, partB_at hl i i hi, if_neg (by omega)]; rfl
end Go.Proofs.Ytdnoadngfkiabaa
namespace Go.Proofs.Ytdnoadngfkiabaa
open Go.RowKit

end Go.Proofs.Ytdnoadngfkiabaa
