/-
  Layer 14: contracts of the reference's Blank, letter, digit, Same, Like, and of the law's cut.
-/
import Derived.Test.YtfmocnbhahcgoaaDoorG7
set_option linter.unusedVariables false
set_option maxRecDepth 100000
namespace Go.Proofs.YtfmocnbhahcgoaaDoor
open Go.RowKit

def BlIs (b : Bool) (w : World) (e : Ending) (w' : World) : Prop := e = .returned (.bool b) ∧ Below w.heap.size w w'
theorem byte_eq (b : UInt8) (n : Nat) (hn : n < 256) : (b == UInt8.ofNat n) = decide (b.toNat = n) := by
  rw [Bool.eq_iff_iff, beq_iff_eq, decide_eq_true_eq, ← UInt8.toNat_inj, UInt8.toNat_ofNat']
  rw [Nat.mod_eq_of_lt (by simpa using hn)]
set_option maxHeartbeats 1000000 in
theorem blank_any (b : UInt8) (w : World) : Calls Tryd.prog 21 #[.int .u8 b.toNat] w (BlIs (blk b) w) := by
  have hb := b.toNat_lt
  have HE : Hid (blk b = (decide (b.toNat = 9) || decide (b.toNat = 10) || decide (b.toNat = 32))) := Lib.hid (by
    unfold blk
    rw [show (9 : UInt8) = UInt8.ofNat 9 from rfl, show (10 : UInt8) = UInt8.ofNat 10 from rfl, show (32 : UInt8) = UInt8.ofNat 32 from rfl, byte_eq _ _ (by omega), byte_eq _ _ (by omega), byte_eq _ _ (by omega)])
  generalize b.toNat = n at *
  go_enter Tryd.func21, Tryd.ntmps21
  by_cases h1 : n = 9
  · subst h1
    go_wp2_with fail
    go_ret
    exact ⟨by rw [HE.out]; rfl, Below.refl _ _⟩
  · by_cases h2 : n = 10
    · subst h2
      go_wp2_with fail
      go_ret
      exact ⟨by rw [HE.out]; rfl, Below.refl _ _⟩
    · have e1 : ((n : Int) == 9) = false := by rw [beq_eq_false_iff_ne]; omega
      have e2 : ((n : Int) == 10) = false := by rw [beq_eq_false_iff_ne]; omega
      by_cases h3 : n = 32
      · subst h3
        go_wp2_with fail
        go_ret
        exact ⟨by rw [HE.out]; rfl, Below.refl _ _⟩
      · have e3 : ((n : Int) == 32) = false := by rw [beq_eq_false_iff_ne]; omega
        have HF : Hid ((decide (n = 9) || decide (n = 10) || decide (n = 32)) = false) := Lib.hid (by simp [h1, h2, h3])
        go_wp2_with fail
        go_ret
        exact ⟨by rw [HE.out, HF.out]; simp_all <;> omega, Below.refl _ _⟩
set_option maxHeartbeats 1000000 in
theorem letter_any (b : UInt8) (w : World) : Calls Tryd.prog 28 #[.int .u8 b.toNat] w (BlIs (ltr b) w) := by
  have HE : Hid (ltr b = (decide (97 ≤ b.toNat) && decide (b.toNat ≤ 122))) := Lib.hid rfl
  have hb := b.toNat_lt
  generalize b.toNat = n at *
  go_enter Tryd.func28, Tryd.ntmps28
  by_cases h1 : 97 ≤ n
  · by_cases h2 : n ≤ 122
    · have HF : Hid ((decide (97 ≤ n) && decide (n ≤ 122)) = true) := Lib.hid (by simp [h1, h2])
      go_wp2_with fail
      go_ret
      exact ⟨by rw [HE.out, HF.out]; simp_all <;> omega, Below.refl _ _⟩
    · have HF : Hid ((decide (97 ≤ n) && decide (n ≤ 122)) = false) := Lib.hid (by simp [h2])
      go_wp2_with fail
      go_ret
      exact ⟨by rw [HE.out, HF.out]; simp_all <;> omega, Below.refl _ _⟩
  · have HF : Hid ((decide (97 ≤ n) && decide (n ≤ 122)) = false) := Lib.hid (by simp [h1])
    go_wp2_with fail
    go_ret
    exact ⟨by rw [HE.out, HF.out]; simp_all <;> omega, Below.refl _ _⟩
set_option maxHeartbeats 1000000 in
theorem digit_any (b : UInt8) (w : World) : Calls Tryd.prog 27 #[.int .u8 b.toNat] w (BlIs (dgt b) w) := by
  have HE : Hid (dgt b = (decide (48 ≤ b.toNat) && decide (b.toNat ≤ 57))) := Lib.hid rfl
  have hb := b.toNat_lt
  generalize b.toNat = n at *
  go_enter Tryd.func27, Tryd.ntmps27
  by_cases h1 : 48 ≤ n
  · by_cases h2 : n ≤ 57
    · have HF : Hid ((decide (48 ≤ n) && decide (n ≤ 57)) = true) := Lib.hid (by simp [h1, h2])
      go_wp2_with fail
      go_ret
      exact ⟨by rw [HE.out, HF.out]; simp_all <;> omega, Below.refl _ _⟩
    · have HF : Hid ((decide (48 ≤ n) && decide (n ≤ 57)) = false) := Lib.hid (by simp [h2])
      go_wp2_with fail
      go_ret
      exact ⟨by rw [HE.out, HF.out]; simp_all <;> omega, Below.refl _ _⟩
  · have HF : Hid ((decide (48 ≤ n) && decide (n ≤ 57)) = false) := Lib.hid (by simp [h1])
    go_wp2_with fail
    go_ret
    exact ⟨by rw [HE.out, HF.out]; simp_all <;> omega, Below.refl _ _⟩
set_option maxHeartbeats 1000000 in
theorem cut_any (s : ByteArray) (w : World) (hs : s.size ≤ 9223372036854775807) : Calls Tryd.prog 10 #[.string s] w (fun e w' => StrIs (s.data.toList.take 3000) w e w' ∧ w' = w) := by
  have HX : Hid (s.size ≤ 3000 → s.data.toList = s.data.toList.take 3000) := Lib.hid (fun h => by
    rw [List.take_of_length_le (by rw [size_list]; omega)])
  have HY : Hid ((s.extract 0 3000).data.toList = s.data.toList.take 3000) := Lib.hid (Lib.extract_from_zero s 3000)
  go_enter Tryd.func10, Tryd.ntmps10
  by_cases h : s.size ≤ 3000
  · have hm : min (s.size : Int) 3000 = (s.size : Int) := by omega
    go_wp2_with fail
    go_ret
    exact ⟨⟨_, rfl, HX.out h, Below.refl _ _⟩, rfl⟩
  · have hm : min (s.size : Int) 3000 = 3000 := by omega
    go_wp2_with fail
    go_ret
    exact ⟨⟨_, rfl, HY.out, Below.refl _ _⟩, rfl⟩
/-! ### Same, Like -/
theorem TkRow.out {w : World} {A : Option Addr} {L : List Tk} (h : TkRow w A L) (h0 : 0 < L.length) : ∃ b off, A = some ⟨b, off, none⟩ ∧ b < w.heap.size ∧ ∀ j (h : j < L.length), TkC w b (off + j * 4) L[j] := h h0
theorem take_eq_step {α : Type} {l m : List α} {k : Nat} (h1 : k < l.length) (h2 : k < m.length) (h : l.take k = m.take k) (e : l[k] = m[k]) : l.take (k + 1) = m.take (k + 1) := by
  rw [List.take_succ_eq_append_getElem h1, List.take_succ_eq_append_getElem h2, h, e]
theorem mk_eq (l m : List UInt8) : ((⟨l.toArray⟩ : ByteArray).toList == (⟨m.toArray⟩ : ByteArray).toList) = decide (l = m) := str_eq _ _
theorem tk_parts {u v : Tk} : u = v ∨ (u ≠ v ∧ ((u.k == v.k) = false ∨ (u.k = v.k ∧ (decide (u.t = v.t)) = false) ∨ (u.k = v.k ∧ u.t = v.t ∧ (u.n == v.n) = false) ∨ (u.k = v.k ∧ u.t = v.t ∧ u.n = v.n ∧ (u.p == v.p) = false))) := by
  obtain ⟨a, b, c, d⟩ := u; obtain ⟨a', b', c', d'⟩ := v
  by_cases e : (⟨a, b, c, d⟩ : Tk) = ⟨a', b', c', d'⟩
  · exact Or.inl e
  · refine Or.inr ⟨e, ?_⟩
    simp only at *
    by_cases c0 : a = a'
    · by_cases c1 : b = b'
      · by_cases c2 : c = c'
        · by_cases c3 : d = d'
          · subst c0; subst c1; subst c2; subst c3; exact absurd rfl e
          · exact .inr (.inr (.inr ⟨c0, c1, c2, by simp [c3]⟩))
        · exact .inr (.inr (.inl ⟨c0, c1, by simp [c2]⟩))
      · exact .inr (.inl ⟨c0, by simp [c1]⟩)
    · exact .inl (by simp [c0])
set_option maxHeartbeats 16000000 in
theorem same_any (A1 : Option Addr) (c1 : Nat) (A2 : Option Addr) (c2 : Nat) (l m : List Tk) (w : World) (h1 : TkRow w A1 l) (h2 : TkRow w A2 m) (hl : l.length ≤ 1099511627776) (hm : m.length ≤ 1099511627776) :
    Calls Tryd.prog 15 #[.slice A1 l.length c1, .slice A2 m.length c2] w (BlIs (decide (l = m)) w) := by
  have H1 := Lib.hid h1; clear h1
  have H2 := Lib.hid h2; clear h2
  by_cases hlen : l.length = m.length
  · have hll : ((l.length : Int) != (m.length : Int)) = false := by simp [hlen]
    go_enter Tryd.func15, Tryd.ntmps15
    go_wp2
    go_loopw [5] (fun i wr => ∃ (k q : Nat), k ≤ l.length ∧ i = .int .i64 k ∧ wr = w.drewN q ∧ l.take k = m.take k) (fun i _ => l.length - (intOf i).toNat)
    case atStart => exact ⟨0, 0, Nat.zero_le _, rfl, rfl, rfl⟩
    case round =>
      obtain ⟨k, q, hk, rfl, rfl, ht⟩ := hrel
      by_cases hlt : k < l.length
      · obtain ⟨b1, o1, rfl, hb1, hv1⟩ := H1.out.out (by omega)
        obtain ⟨b2, o2, rfl, hb2, hv2⟩ := H2.out.out (by omega)
        obtain ⟨x0, x1, x2, x3⟩ := hv1 k hlt
        obtain ⟨y0, y1, y2, y3⟩ := hv2 k (by omega)
        have hk2 : k < m.length := by omega
        have HT := Lib.hid (take_eq_step hlt hk2 ht); clear ht
        have HNE : Hid (l[k] ≠ m[k] → l ≠ m) := Lib.hid (fun h e => h (by subst e; rfl))
        have i0 : (0 : Int) ≤ (k : Int) := by omega
        have i1 : (k : Int) < (l.length : Int) := by omega
        have i2 : (k : Int) < (m.length : Int) := by omega
        clear hv1 hv2
        generalize l[k] = u at *
        generalize m[k] = v at *
        have hse := mk_eq u.t v.t
        rcases tk_parts (u := u) (v := v) with rfl | ⟨e, hd⟩
        · have HT2 := Lib.hid (HT.out rfl); clear HT HNE hse
          go_wp2_with fail
          go_quiet (fail)
          go_wp2
          go_roundw
          case rel => exact ⟨k + 1, _, by omega, by go_num, rfl, HT2.out⟩
          case measure => simp [intOf]; omega
        · have HN := Lib.hid (HNE.out e); clear HT HNE e
          have hs2 : (u.t == v.t) = decide (u.t = v.t) := by rw [Bool.eq_iff_iff]; simp
          rcases hd with d0 | ⟨d0, d1⟩ | ⟨d0, d1, d2⟩ | ⟨d0, d1, d2, d3⟩
          all_goals
            try simp only [d1, decide_true] at hse hs2
            go_wp2_with fail
            go_quiet (fail)
            go_wp2
            go_ret
            exact ⟨by rw [decide_eq_false HN.out]; rfl, by (repeat' first | exact Below.refl _ _ | assumption | (apply below_drewN) | (refine Below.setCell ?_ (by (try simp); (try omega)) _) | (refine Below.alloc ?_ (by (try simp); (try omega)) _) | (refine Below.trans ?_ (Below.mono (Hid.out (by assumption)) (by (try simp); (try omega)))))⟩
      · obtain rfl : k = l.length := by omega
        have he : l = m := by
          rw [List.take_length] at ht
          rw [ht, hlen, List.take_length]
        go_wp2
        go_ret
        exact ⟨by rw [decide_eq_true he]; rfl, by (repeat' first | exact Below.refl _ _ | assumption | (apply below_drewN) | (refine Below.setCell ?_ (by (try simp); (try omega)) _) | (refine Below.alloc ?_ (by (try simp); (try omega)) _) | (refine Below.trans ?_ (Below.mono (Hid.out (by assumption)) (by (try simp); (try omega)))))⟩
  · have hll : ((l.length : Int) != (m.length : Int)) = true := by simp; omega
    rw [decide_eq_false (fun e => hlen (by rw [e]))]
    go_enter Tryd.func15, Tryd.ntmps15
    go_wp2
    go_ret
    exact ⟨rfl, by (repeat' first | exact Below.refl _ _ | assumption | (apply below_drewN) | (refine Below.setCell ?_ (by (try simp); (try omega)) _) | (refine Below.alloc ?_ (by (try simp); (try omega)) _) | (refine Below.trans ?_ (Below.mono (Hid.out (by assumption)) (by (try simp); (try omega)))))⟩
end Go.Proofs.YtfmocnbhahcgoaaDoor
