/-
  Layer 14: the contract of the reference's sign.
-/
import Derived.Test.YtfmocnbhahcgoaaDoorP2
set_option linter.unusedVariables false
set_option maxRecDepth 100000
namespace Go.Proofs.YtfmocnbhahcgoaaDoor
open Go.RowKit

def ones : List UInt8 := [59, 44, 58, 61, 60, 43, 45, 42, 47, 37, 40, 41]
theorem sgn_cons (b : UInt8) (r : List UInt8) : signT (b :: r) = if (b = 60 ∨ b = 61) ∧ hdB (· == 61) r = true then ⟨0, 2, [b, 61], 0⟩ else if b ∈ ones then ⟨0, 2, [b], 0⟩ else ⟨13, 0, [], 0⟩ := by
  by_cases hm : b ∈ ones
  · simp only [ones, List.mem_cons, List.mem_nil_iff, or_false] at hm
    rcases hm with rfl | rfl | rfl | rfl | rfl | rfl | rfl | rfl | rfl | rfl | rfl | rfl
    all_goals
      cases r with
      | nil => rfl
      | cons c r =>
        by_cases hc : c = 61
        · subst hc; simp [signT, sgns, List.find?, List.isPrefixOf, hdB, ones]
        · have h1 : (61 == c) = false := by simpa using fun e => hc (Eq.symm e)
          have h2 : (c == 61) = false := by simpa using hc
          simp [signT, sgns, List.find?, List.isPrefixOf, hdB, ones, h1, h2]
  · have hm2 := hm
    simp only [ones, List.mem_cons, List.mem_nil_iff, or_false, not_or] at hm2
    have h60 : ¬ (b = 60 ∨ b = 61) := by rintro (rfl | rfl) <;> simp [ones] at hm
    rw [if_neg (fun h => h60 h.1), if_neg hm]
    obtain ⟨m0, m1, m2, m3, m4, m5, m6, m7, m8, m9, m10, m11⟩ := hm2
    have e : ∀ x : UInt8, ¬ b = x → (x == b) = false := fun x h => by simpa using fun e => h (Eq.symm e)
    simp [signT, sgns, List.find?, List.isPrefixOf, e _ m0, e _ m1, e _ m2, e _ m3, e _ m4, e _ m5, e _ m6, e _ m7, e _ m8, e _ m9, e _ m10, e _ m11]
def sgL (l : List UInt8) : Nat := (signT l).t.length
theorem drop_at_byte {s : ByteArray} {k : Nat} (hk : k < s.size) : s.data.toList.drop k = (s[k]'hk) :: s.data.toList.drop (k + 1) := by
  have h := at_list hk
  have hl : k < s.data.toList.length := by rw [size_list]; exact hk
  rw [List.drop_eq_getElem_cons hl]
  rw [List.getElem?_eq_getElem hl] at h
  injection h with h
  rw [h]
theorem hd_drop {s : ByteArray} {k : Nat} {f : UInt8 → Bool} (hk : k < s.size) : hdB f (s.data.toList.drop k) = f (s[k]'hk) := by rw [drop_at_byte hk]; rfl
theorem hd_drop_no {s : ByteArray} {k : Nat} {f : UInt8 → Bool} (hk : ¬ k < s.size) : hdB f (s.data.toList.drop k) = false := by
  rw [List.drop_eq_nil_of_le (by rw [size_list]; omega)]; rfl
theorem sgL_two {s : ByteArray} {k : Nat} (hk : k < s.size) (hk1 : k + 1 < s.size) (h : (s[k + 1]'hk1).toNat = 61) (hb : (s[k]'hk).toNat = 60 ∨ (s[k]'hk).toNat = 61) : sgL (s.data.toList.drop k) = 2 := by
  have hc : (s[k + 1]'hk1) = 61 := UInt8.toNat_inj.1 h
  have hb2 : (s[k]'hk) = 60 ∨ (s[k]'hk) = 61 := hb.imp (fun e => UInt8.toNat_inj.1 e) (fun e => UInt8.toNat_inj.1 e)
  unfold sgL
  rw [drop_at_byte hk, sgn_cons, if_pos ⟨hb2, by rw [hd_drop hk1, hc]; rfl⟩]; rfl
theorem sgL_one {s : ByteArray} {k : Nat} (hk : k < s.size) (hn : ¬ (((s[k]'hk).toNat = 60 ∨ (s[k]'hk).toNat = 61) ∧ ∃ h : k + 1 < s.size, (s[k + 1]'h).toNat = 61)) : sgL (s.data.toList.drop k) = if (s[k]'hk) ∈ ones then 1 else 0 := by
  unfold sgL
  rw [drop_at_byte hk, sgn_cons, if_neg (fun h => hn ⟨h.1.imp (fun e => by rw [e]; rfl) (fun e => by rw [e]; rfl), by
    by_cases h1 : k + 1 < s.size
    · refine ⟨h1, ?_⟩
      have := h.2
      rw [hd_drop h1] at this
      have : (s[k + 1]'h1) = 61 := by simpa using this
      rw [this]; rfl
    · have := h.2
      rw [hd_drop_no h1] at this; cases this⟩)]
  split <;> rfl
def IntIs (v : Int) (w : World) (e : Ending) (w' : World) : Prop := e = .returned (.int .i64 v) ∧ Below w.heap.size w w'
set_option maxHeartbeats 80000000 in
theorem rsign_any (s : ByteArray) (k : Nat) (w : World) (hs : s.size ≤ 1099511627776) (hk : k < s.size) : Calls Tryd.prog 34 #[.string s, .int .i64 k] w (IntIs (sgL (s.data.toList.drop k)) w) := by
  have n0 : (0 : Int) ≤ (k : Int) := by omega
  have n1 : (k : Int) < (s.size : Int) := by omega
  by_cases h1 : k + 1 < s.size
  · have n2 : (k : Int) + 1 < (s.size : Int) := by omega
    by_cases hc : (s[k + 1]'h1).toNat = 61
    · have gc : (((s[k + 1]'h1).toNat : Int) == 61) = true := by rw [beq_iff_eq]; omega
      by_cases hb : (s[k]'hk).toNat = 60
      · have HX := Lib.hid (sgL_two hk h1 hc (.inl hb))
        have gb : (((s[k]'hk).toNat : Int) == 60) = true := by rw [beq_iff_eq]; omega
        have gb2 : (((s[k]'hk).toNat : Int) == 61) = false := by rw [beq_eq_false_iff_ne]; omega
        clear hb hc
        go_enter Tryd.func34, Tryd.ntmps34
        go_wp2_with fail
        go_ret
        exact ⟨by rw [HX.out]; rfl, Below.refl _ _⟩
      · by_cases hb1 : (s[k]'hk).toNat = 61
        · have HX := Lib.hid (sgL_two hk h1 hc (.inr hb1))
          have gb : (((s[k]'hk).toNat : Int) == 61) = true := by rw [beq_iff_eq]; omega
          have gb2 : (((s[k]'hk).toNat : Int) == 60) = false := by rw [beq_eq_false_iff_ne]; omega
          clear hb1 hc
          go_enter Tryd.func34, Tryd.ntmps34
          go_wp2_with fail
          go_ret
          exact ⟨by rw [HX.out]; rfl, Below.refl _ _⟩
        · have HNT : Hid (¬ (((s[k]'hk).toNat = 60 ∨ (s[k]'hk).toNat = 61) ∧ ∃ h : k + 1 < s.size, (s[k + 1]'h).toNat = 61)) := Lib.hid (fun h => h.1.elim hb hb1)
          have g60 : (((s[k]'hk).toNat : Int) == 60) = false := by rw [beq_eq_false_iff_ne]; omega
          have g61 : (((s[k]'hk).toNat : Int) == 61) = false := by rw [beq_eq_false_iff_ne]; omega
          clear hb hb1 hc
          have H1 := Lib.hid (sgL_one hk HNT.out)
          have HM : Hid ((s[k]'hk) ∈ ones → sgL (s.data.toList.drop k) = 1) := Lib.hid (fun h => by rw [H1.out, if_pos h])
          have HNO : Hid ((∀ j (hj : j < ones.length), (s[k]'hk) ≠ ones[j]) → sgL (s.data.toList.drop k) = 0) := Lib.hid (fun h => by
            rw [H1.out, if_neg (fun hm => by
              obtain ⟨j, hj, e⟩ := List.getElem_of_mem hm
              exact h j hj e.symm)])
          clear HNT H1
          go_enter Tryd.func34, Tryd.ntmps34
          go_wp2_with fail
          go_loopw [6] (fun i wr => ∃ (m q : Nat), m ≤ 12 ∧ i = .int .i64 m ∧ wr = w.drewN q ∧ Hid (∀ j (hj : j < ones.length), j < m → (s[k]'hk) ≠ ones[j])) (fun i _ => 12 - (intOf i).toNat)
          case atStart => exact ⟨0, 0, Nat.zero_le _, rfl, rfl, Lib.hid (fun j hj h => by omega)⟩
          case round =>
            obtain ⟨m, q, hm, rfl, rfl, HJ⟩ := hrel
            have HNX : Hid (∀ (hm : m < ones.length), (s[k]'hk) ≠ ones[m] → ∀ j (hj : j < ones.length), j < m + 1 → (s[k]'hk) ≠ ones[j]) := Lib.hid (fun hm h j hj hjm => by
              by_cases e : j = m
              · subst e; exact h
              · exact HJ.out j hj (by omega))
            rcases (by omega : m = 0 ∨ m = 1 ∨ m = 2 ∨ m = 3 ∨ m = 4 ∨ m = 5 ∨ m = 6 ∨ m = 7 ∨ m = 8 ∨ m = 9 ∨ m = 10 ∨ m = 11 ∨ m = 12) with rfl | rfl | rfl | rfl | rfl | rfl | rfl | rfl | rfl | rfl | rfl | rfl | rfl
            · by_cases hb : (s[k]'hk).toNat = 59
              · have HX := Lib.hid (HM.out (by
                  have : (s[k]'hk) = 59 := UInt8.toNat_inj.1 hb
                  rw [this]; decide))
                have g : (((s[k]'hk).toNat : Int) == ((((⟨#[59, 44, 58, 61, 60, 43, 45, 42, 47, 37, 40, 41]⟩ : ByteArray)[0]'(by decide)).toNat : Nat) : Int)) = true := by
                  show (((s[k]'hk).toNat : Int) == ((59 : Nat) : Int)) = true
                  rw [beq_iff_eq]; omega
                clear hb HJ HNX HM HNO
                go_wp2_with fail
                go_quiet (fail)
                go_wp2_with fail
                go_ret
                exact ⟨by rw [HX.out]; rfl, by first | exact Below.refl _ _ | exact below_drewN (Below.refl _ _) _ | exact below_drewN (below_drewN (Below.refl _ _) _) _⟩
              · have HX := Lib.hid (HNX.out (by decide) (fun e => hb (by rw [e]; rfl)))
                have g : (((s[k]'hk).toNat : Int) == ((((⟨#[59, 44, 58, 61, 60, 43, 45, 42, 47, 37, 40, 41]⟩ : ByteArray)[0]'(by decide)).toNat : Nat) : Int)) = false := by
                  show (((s[k]'hk).toNat : Int) == ((59 : Nat) : Int)) = false
                  rw [beq_eq_false_iff_ne]; omega
                clear hb HJ HNX
                go_wp2_with fail
                go_quiet (fail)
                go_wp2_with fail
                go_roundw
                case rel => exact ⟨1, _, by omega, rfl, rfl, HX⟩
                case measure => simp [intOf]
            · by_cases hb : (s[k]'hk).toNat = 44
              · have HX := Lib.hid (HM.out (by
                  have : (s[k]'hk) = 44 := UInt8.toNat_inj.1 hb
                  rw [this]; decide))
                have g : (((s[k]'hk).toNat : Int) == ((((⟨#[59, 44, 58, 61, 60, 43, 45, 42, 47, 37, 40, 41]⟩ : ByteArray)[1]'(by decide)).toNat : Nat) : Int)) = true := by
                  show (((s[k]'hk).toNat : Int) == ((44 : Nat) : Int)) = true
                  rw [beq_iff_eq]; omega
                clear hb HJ HNX HM HNO
                go_wp2_with fail
                go_quiet (fail)
                go_wp2_with fail
                go_ret
                exact ⟨by rw [HX.out]; rfl, by first | exact Below.refl _ _ | exact below_drewN (Below.refl _ _) _ | exact below_drewN (below_drewN (Below.refl _ _) _) _⟩
              · have HX := Lib.hid (HNX.out (by decide) (fun e => hb (by rw [e]; rfl)))
                have g : (((s[k]'hk).toNat : Int) == ((((⟨#[59, 44, 58, 61, 60, 43, 45, 42, 47, 37, 40, 41]⟩ : ByteArray)[1]'(by decide)).toNat : Nat) : Int)) = false := by
                  show (((s[k]'hk).toNat : Int) == ((44 : Nat) : Int)) = false
                  rw [beq_eq_false_iff_ne]; omega
                clear hb HJ HNX
                go_wp2_with fail
                go_quiet (fail)
                go_wp2_with fail
                go_roundw
                case rel => exact ⟨2, _, by omega, rfl, rfl, HX⟩
                case measure => simp [intOf]
            · by_cases hb : (s[k]'hk).toNat = 58
              · have HX := Lib.hid (HM.out (by
                  have : (s[k]'hk) = 58 := UInt8.toNat_inj.1 hb
                  rw [this]; decide))
                have g : (((s[k]'hk).toNat : Int) == ((((⟨#[59, 44, 58, 61, 60, 43, 45, 42, 47, 37, 40, 41]⟩ : ByteArray)[2]'(by decide)).toNat : Nat) : Int)) = true := by
                  show (((s[k]'hk).toNat : Int) == ((58 : Nat) : Int)) = true
                  rw [beq_iff_eq]; omega
                clear hb HJ HNX HM HNO
                go_wp2_with fail
                go_quiet (fail)
                go_wp2_with fail
                go_ret
                exact ⟨by rw [HX.out]; rfl, by first | exact Below.refl _ _ | exact below_drewN (Below.refl _ _) _ | exact below_drewN (below_drewN (Below.refl _ _) _) _⟩
              · have HX := Lib.hid (HNX.out (by decide) (fun e => hb (by rw [e]; rfl)))
                have g : (((s[k]'hk).toNat : Int) == ((((⟨#[59, 44, 58, 61, 60, 43, 45, 42, 47, 37, 40, 41]⟩ : ByteArray)[2]'(by decide)).toNat : Nat) : Int)) = false := by
                  show (((s[k]'hk).toNat : Int) == ((58 : Nat) : Int)) = false
                  rw [beq_eq_false_iff_ne]; omega
                clear hb HJ HNX
                go_wp2_with fail
                go_quiet (fail)
                go_wp2_with fail
                go_roundw
                case rel => exact ⟨3, _, by omega, rfl, rfl, HX⟩
                case measure => simp [intOf]
            · by_cases hb : (s[k]'hk).toNat = 61
              · have HX := Lib.hid (HM.out (by
                  have : (s[k]'hk) = 61 := UInt8.toNat_inj.1 hb
                  rw [this]; decide))
                have g : (((s[k]'hk).toNat : Int) == ((((⟨#[59, 44, 58, 61, 60, 43, 45, 42, 47, 37, 40, 41]⟩ : ByteArray)[3]'(by decide)).toNat : Nat) : Int)) = true := by
                  show (((s[k]'hk).toNat : Int) == ((61 : Nat) : Int)) = true
                  rw [beq_iff_eq]; omega
                clear hb HJ HNX HM HNO
                go_wp2_with fail
                go_quiet (fail)
                go_wp2_with fail
                go_ret
                exact ⟨by rw [HX.out]; rfl, by first | exact Below.refl _ _ | exact below_drewN (Below.refl _ _) _ | exact below_drewN (below_drewN (Below.refl _ _) _) _⟩
              · have HX := Lib.hid (HNX.out (by decide) (fun e => hb (by rw [e]; rfl)))
                have g : (((s[k]'hk).toNat : Int) == ((((⟨#[59, 44, 58, 61, 60, 43, 45, 42, 47, 37, 40, 41]⟩ : ByteArray)[3]'(by decide)).toNat : Nat) : Int)) = false := by
                  show (((s[k]'hk).toNat : Int) == ((61 : Nat) : Int)) = false
                  rw [beq_eq_false_iff_ne]; omega
                clear hb HJ HNX
                go_wp2_with fail
                go_quiet (fail)
                go_wp2_with fail
                go_roundw
                case rel => exact ⟨4, _, by omega, rfl, rfl, HX⟩
                case measure => simp [intOf]
            · by_cases hb : (s[k]'hk).toNat = 60
              · have HX := Lib.hid (HM.out (by
                  have : (s[k]'hk) = 60 := UInt8.toNat_inj.1 hb
                  rw [this]; decide))
                have g : (((s[k]'hk).toNat : Int) == ((((⟨#[59, 44, 58, 61, 60, 43, 45, 42, 47, 37, 40, 41]⟩ : ByteArray)[4]'(by decide)).toNat : Nat) : Int)) = true := by
                  show (((s[k]'hk).toNat : Int) == ((60 : Nat) : Int)) = true
                  rw [beq_iff_eq]; omega
                clear hb HJ HNX HM HNO
                go_wp2_with fail
                go_quiet (fail)
                go_wp2_with fail
                go_ret
                exact ⟨by rw [HX.out]; rfl, by first | exact Below.refl _ _ | exact below_drewN (Below.refl _ _) _ | exact below_drewN (below_drewN (Below.refl _ _) _) _⟩
              · have HX := Lib.hid (HNX.out (by decide) (fun e => hb (by rw [e]; rfl)))
                have g : (((s[k]'hk).toNat : Int) == ((((⟨#[59, 44, 58, 61, 60, 43, 45, 42, 47, 37, 40, 41]⟩ : ByteArray)[4]'(by decide)).toNat : Nat) : Int)) = false := by
                  show (((s[k]'hk).toNat : Int) == ((60 : Nat) : Int)) = false
                  rw [beq_eq_false_iff_ne]; omega
                clear hb HJ HNX
                go_wp2_with fail
                go_quiet (fail)
                go_wp2_with fail
                go_roundw
                case rel => exact ⟨5, _, by omega, rfl, rfl, HX⟩
                case measure => simp [intOf]
            · by_cases hb : (s[k]'hk).toNat = 43
              · have HX := Lib.hid (HM.out (by
                  have : (s[k]'hk) = 43 := UInt8.toNat_inj.1 hb
                  rw [this]; decide))
                have g : (((s[k]'hk).toNat : Int) == ((((⟨#[59, 44, 58, 61, 60, 43, 45, 42, 47, 37, 40, 41]⟩ : ByteArray)[5]'(by decide)).toNat : Nat) : Int)) = true := by
                  show (((s[k]'hk).toNat : Int) == ((43 : Nat) : Int)) = true
                  rw [beq_iff_eq]; omega
                clear hb HJ HNX HM HNO
                go_wp2_with fail
                go_quiet (fail)
                go_wp2_with fail
                go_ret
                exact ⟨by rw [HX.out]; rfl, by first | exact Below.refl _ _ | exact below_drewN (Below.refl _ _) _ | exact below_drewN (below_drewN (Below.refl _ _) _) _⟩
              · have HX := Lib.hid (HNX.out (by decide) (fun e => hb (by rw [e]; rfl)))
                have g : (((s[k]'hk).toNat : Int) == ((((⟨#[59, 44, 58, 61, 60, 43, 45, 42, 47, 37, 40, 41]⟩ : ByteArray)[5]'(by decide)).toNat : Nat) : Int)) = false := by
                  show (((s[k]'hk).toNat : Int) == ((43 : Nat) : Int)) = false
                  rw [beq_eq_false_iff_ne]; omega
                clear hb HJ HNX
                go_wp2_with fail
                go_quiet (fail)
                go_wp2_with fail
                go_roundw
                case rel => exact ⟨6, _, by omega, rfl, rfl, HX⟩
                case measure => simp [intOf]
            · by_cases hb : (s[k]'hk).toNat = 45
              · have HX := Lib.hid (HM.out (by
                  have : (s[k]'hk) = 45 := UInt8.toNat_inj.1 hb
                  rw [this]; decide))
                have g : (((s[k]'hk).toNat : Int) == ((((⟨#[59, 44, 58, 61, 60, 43, 45, 42, 47, 37, 40, 41]⟩ : ByteArray)[6]'(by decide)).toNat : Nat) : Int)) = true := by
                  show (((s[k]'hk).toNat : Int) == ((45 : Nat) : Int)) = true
                  rw [beq_iff_eq]; omega
                clear hb HJ HNX HM HNO
                go_wp2_with fail
                go_quiet (fail)
                go_wp2_with fail
                go_ret
                exact ⟨by rw [HX.out]; rfl, by first | exact Below.refl _ _ | exact below_drewN (Below.refl _ _) _ | exact below_drewN (below_drewN (Below.refl _ _) _) _⟩
              · have HX := Lib.hid (HNX.out (by decide) (fun e => hb (by rw [e]; rfl)))
                have g : (((s[k]'hk).toNat : Int) == ((((⟨#[59, 44, 58, 61, 60, 43, 45, 42, 47, 37, 40, 41]⟩ : ByteArray)[6]'(by decide)).toNat : Nat) : Int)) = false := by
                  show (((s[k]'hk).toNat : Int) == ((45 : Nat) : Int)) = false
                  rw [beq_eq_false_iff_ne]; omega
                clear hb HJ HNX
                go_wp2_with fail
                go_quiet (fail)
                go_wp2_with fail
                go_roundw
                case rel => exact ⟨7, _, by omega, rfl, rfl, HX⟩
                case measure => simp [intOf]
            · by_cases hb : (s[k]'hk).toNat = 42
              · have HX := Lib.hid (HM.out (by
                  have : (s[k]'hk) = 42 := UInt8.toNat_inj.1 hb
                  rw [this]; decide))
                have g : (((s[k]'hk).toNat : Int) == ((((⟨#[59, 44, 58, 61, 60, 43, 45, 42, 47, 37, 40, 41]⟩ : ByteArray)[7]'(by decide)).toNat : Nat) : Int)) = true := by
                  show (((s[k]'hk).toNat : Int) == ((42 : Nat) : Int)) = true
                  rw [beq_iff_eq]; omega
                clear hb HJ HNX HM HNO
                go_wp2_with fail
                go_quiet (fail)
                go_wp2_with fail
                go_ret
                exact ⟨by rw [HX.out]; rfl, by first | exact Below.refl _ _ | exact below_drewN (Below.refl _ _) _ | exact below_drewN (below_drewN (Below.refl _ _) _) _⟩
              · have HX := Lib.hid (HNX.out (by decide) (fun e => hb (by rw [e]; rfl)))
                have g : (((s[k]'hk).toNat : Int) == ((((⟨#[59, 44, 58, 61, 60, 43, 45, 42, 47, 37, 40, 41]⟩ : ByteArray)[7]'(by decide)).toNat : Nat) : Int)) = false := by
                  show (((s[k]'hk).toNat : Int) == ((42 : Nat) : Int)) = false
                  rw [beq_eq_false_iff_ne]; omega
                clear hb HJ HNX
                go_wp2_with fail
                go_quiet (fail)
                go_wp2_with fail
                go_roundw
                case rel => exact ⟨8, _, by omega, rfl, rfl, HX⟩
                case measure => simp [intOf]
            · by_cases hb : (s[k]'hk).toNat = 47
              · have HX := Lib.hid (HM.out (by
                  have : (s[k]'hk) = 47 := UInt8.toNat_inj.1 hb
                  rw [this]; decide))
                have g : (((s[k]'hk).toNat : Int) == ((((⟨#[59, 44, 58, 61, 60, 43, 45, 42, 47, 37, 40, 41]⟩ : ByteArray)[8]'(by decide)).toNat : Nat) : Int)) = true := by
                  show (((s[k]'hk).toNat : Int) == ((47 : Nat) : Int)) = true
                  rw [beq_iff_eq]; omega
                clear hb HJ HNX HM HNO
                go_wp2_with fail
                go_quiet (fail)
                go_wp2_with fail
                go_ret
                exact ⟨by rw [HX.out]; rfl, by first | exact Below.refl _ _ | exact below_drewN (Below.refl _ _) _ | exact below_drewN (below_drewN (Below.refl _ _) _) _⟩
              · have HX := Lib.hid (HNX.out (by decide) (fun e => hb (by rw [e]; rfl)))
                have g : (((s[k]'hk).toNat : Int) == ((((⟨#[59, 44, 58, 61, 60, 43, 45, 42, 47, 37, 40, 41]⟩ : ByteArray)[8]'(by decide)).toNat : Nat) : Int)) = false := by
                  show (((s[k]'hk).toNat : Int) == ((47 : Nat) : Int)) = false
                  rw [beq_eq_false_iff_ne]; omega
                clear hb HJ HNX
                go_wp2_with fail
                go_quiet (fail)
                go_wp2_with fail
                go_roundw
                case rel => exact ⟨9, _, by omega, rfl, rfl, HX⟩
                case measure => simp [intOf]
            · by_cases hb : (s[k]'hk).toNat = 37
              · have HX := Lib.hid (HM.out (by
                  have : (s[k]'hk) = 37 := UInt8.toNat_inj.1 hb
                  rw [this]; decide))
                have g : (((s[k]'hk).toNat : Int) == ((((⟨#[59, 44, 58, 61, 60, 43, 45, 42, 47, 37, 40, 41]⟩ : ByteArray)[9]'(by decide)).toNat : Nat) : Int)) = true := by
                  show (((s[k]'hk).toNat : Int) == ((37 : Nat) : Int)) = true
                  rw [beq_iff_eq]; omega
                clear hb HJ HNX HM HNO
                go_wp2_with fail
                go_quiet (fail)
                go_wp2_with fail
                go_ret
                exact ⟨by rw [HX.out]; rfl, by first | exact Below.refl _ _ | exact below_drewN (Below.refl _ _) _ | exact below_drewN (below_drewN (Below.refl _ _) _) _⟩
              · have HX := Lib.hid (HNX.out (by decide) (fun e => hb (by rw [e]; rfl)))
                have g : (((s[k]'hk).toNat : Int) == ((((⟨#[59, 44, 58, 61, 60, 43, 45, 42, 47, 37, 40, 41]⟩ : ByteArray)[9]'(by decide)).toNat : Nat) : Int)) = false := by
                  show (((s[k]'hk).toNat : Int) == ((37 : Nat) : Int)) = false
                  rw [beq_eq_false_iff_ne]; omega
                clear hb HJ HNX
                go_wp2_with fail
                go_quiet (fail)
                go_wp2_with fail
                go_roundw
                case rel => exact ⟨10, _, by omega, rfl, rfl, HX⟩
                case measure => simp [intOf]
            · by_cases hb : (s[k]'hk).toNat = 40
              · have HX := Lib.hid (HM.out (by
                  have : (s[k]'hk) = 40 := UInt8.toNat_inj.1 hb
                  rw [this]; decide))
                have g : (((s[k]'hk).toNat : Int) == ((((⟨#[59, 44, 58, 61, 60, 43, 45, 42, 47, 37, 40, 41]⟩ : ByteArray)[10]'(by decide)).toNat : Nat) : Int)) = true := by
                  show (((s[k]'hk).toNat : Int) == ((40 : Nat) : Int)) = true
                  rw [beq_iff_eq]; omega
                clear hb HJ HNX HM HNO
                go_wp2_with fail
                go_quiet (fail)
                go_wp2_with fail
                go_ret
                exact ⟨by rw [HX.out]; rfl, by first | exact Below.refl _ _ | exact below_drewN (Below.refl _ _) _ | exact below_drewN (below_drewN (Below.refl _ _) _) _⟩
              · have HX := Lib.hid (HNX.out (by decide) (fun e => hb (by rw [e]; rfl)))
                have g : (((s[k]'hk).toNat : Int) == ((((⟨#[59, 44, 58, 61, 60, 43, 45, 42, 47, 37, 40, 41]⟩ : ByteArray)[10]'(by decide)).toNat : Nat) : Int)) = false := by
                  show (((s[k]'hk).toNat : Int) == ((40 : Nat) : Int)) = false
                  rw [beq_eq_false_iff_ne]; omega
                clear hb HJ HNX
                go_wp2_with fail
                go_quiet (fail)
                go_wp2_with fail
                go_roundw
                case rel => exact ⟨11, _, by omega, rfl, rfl, HX⟩
                case measure => simp [intOf]
            · by_cases hb : (s[k]'hk).toNat = 41
              · have HX := Lib.hid (HM.out (by
                  have : (s[k]'hk) = 41 := UInt8.toNat_inj.1 hb
                  rw [this]; decide))
                have g : (((s[k]'hk).toNat : Int) == ((((⟨#[59, 44, 58, 61, 60, 43, 45, 42, 47, 37, 40, 41]⟩ : ByteArray)[11]'(by decide)).toNat : Nat) : Int)) = true := by
                  show (((s[k]'hk).toNat : Int) == ((41 : Nat) : Int)) = true
                  rw [beq_iff_eq]; omega
                clear hb HJ HNX HM HNO
                go_wp2_with fail
                go_quiet (fail)
                go_wp2_with fail
                go_ret
                exact ⟨by rw [HX.out]; rfl, by first | exact Below.refl _ _ | exact below_drewN (Below.refl _ _) _ | exact below_drewN (below_drewN (Below.refl _ _) _) _⟩
              · have HX := Lib.hid (HNX.out (by decide) (fun e => hb (by rw [e]; rfl)))
                have g : (((s[k]'hk).toNat : Int) == ((((⟨#[59, 44, 58, 61, 60, 43, 45, 42, 47, 37, 40, 41]⟩ : ByteArray)[11]'(by decide)).toNat : Nat) : Int)) = false := by
                  show (((s[k]'hk).toNat : Int) == ((41 : Nat) : Int)) = false
                  rw [beq_eq_false_iff_ne]; omega
                clear hb HJ HNX
                go_wp2_with fail
                go_quiet (fail)
                go_wp2_with fail
                go_roundw
                case rel => exact ⟨12, _, by omega, rfl, rfl, HX⟩
                case measure => simp [intOf]
            · have HX := Lib.hid (HNO.out (fun j hj => HJ.out j hj hj))
              clear HJ HNX HM HNO
              go_wp2_with fail
              go_ret
              exact ⟨by rw [HX.out]; rfl, below_drewN (Below.refl _ _) _⟩
    · have HNT : Hid (¬ (((s[k]'hk).toNat = 60 ∨ (s[k]'hk).toNat = 61) ∧ ∃ h : k + 1 < s.size, (s[k + 1]'h).toNat = 61)) := Lib.hid (fun h => by obtain ⟨_, _, h⟩ := h; exact hc h)
      have gc : (((s[k + 1]'h1).toNat : Int) == 61) = false := by rw [beq_eq_false_iff_ne]; omega
      clear hc
      have H1 := Lib.hid (sgL_one hk HNT.out)
      have HM : Hid ((s[k]'hk) ∈ ones → sgL (s.data.toList.drop k) = 1) := Lib.hid (fun h => by rw [H1.out, if_pos h])
      have HNO : Hid ((∀ j (hj : j < ones.length), (s[k]'hk) ≠ ones[j]) → sgL (s.data.toList.drop k) = 0) := Lib.hid (fun h => by
        rw [H1.out, if_neg (fun hm => by
          obtain ⟨j, hj, e⟩ := List.getElem_of_mem hm
          exact h j hj e.symm)])
      clear HNT H1
      go_enter Tryd.func34, Tryd.ntmps34
      go_wp2_with fail
      go_loopw [6] (fun i wr => ∃ (m q : Nat), m ≤ 12 ∧ i = .int .i64 m ∧ wr = w.drewN q ∧ Hid (∀ j (hj : j < ones.length), j < m → (s[k]'hk) ≠ ones[j])) (fun i _ => 12 - (intOf i).toNat)
      case atStart => exact ⟨0, 0, Nat.zero_le _, rfl, rfl, Lib.hid (fun j hj h => by omega)⟩
      case round =>
        obtain ⟨m, q, hm, rfl, rfl, HJ⟩ := hrel
        have HNX : Hid (∀ (hm : m < ones.length), (s[k]'hk) ≠ ones[m] → ∀ j (hj : j < ones.length), j < m + 1 → (s[k]'hk) ≠ ones[j]) := Lib.hid (fun hm h j hj hjm => by
          by_cases e : j = m
          · subst e; exact h
          · exact HJ.out j hj (by omega))
        rcases (by omega : m = 0 ∨ m = 1 ∨ m = 2 ∨ m = 3 ∨ m = 4 ∨ m = 5 ∨ m = 6 ∨ m = 7 ∨ m = 8 ∨ m = 9 ∨ m = 10 ∨ m = 11 ∨ m = 12) with rfl | rfl | rfl | rfl | rfl | rfl | rfl | rfl | rfl | rfl | rfl | rfl | rfl
        · by_cases hb : (s[k]'hk).toNat = 59
          · have HX := Lib.hid (HM.out (by
              have : (s[k]'hk) = 59 := UInt8.toNat_inj.1 hb
              rw [this]; decide))
            have g : (((s[k]'hk).toNat : Int) == ((((⟨#[59, 44, 58, 61, 60, 43, 45, 42, 47, 37, 40, 41]⟩ : ByteArray)[0]'(by decide)).toNat : Nat) : Int)) = true := by
              show (((s[k]'hk).toNat : Int) == ((59 : Nat) : Int)) = true
              rw [beq_iff_eq]; omega
            clear hb HJ HNX HM HNO
            go_wp2_with fail
            go_quiet (fail)
            go_wp2_with fail
            go_ret
            exact ⟨by rw [HX.out]; rfl, by first | exact Below.refl _ _ | exact below_drewN (Below.refl _ _) _ | exact below_drewN (below_drewN (Below.refl _ _) _) _⟩
          · have HX := Lib.hid (HNX.out (by decide) (fun e => hb (by rw [e]; rfl)))
            have g : (((s[k]'hk).toNat : Int) == ((((⟨#[59, 44, 58, 61, 60, 43, 45, 42, 47, 37, 40, 41]⟩ : ByteArray)[0]'(by decide)).toNat : Nat) : Int)) = false := by
              show (((s[k]'hk).toNat : Int) == ((59 : Nat) : Int)) = false
              rw [beq_eq_false_iff_ne]; omega
            clear hb HJ HNX
            go_wp2_with fail
            go_quiet (fail)
            go_wp2_with fail
            go_roundw
            case rel => exact ⟨1, _, by omega, rfl, rfl, HX⟩
            case measure => simp [intOf]
        · by_cases hb : (s[k]'hk).toNat = 44
          · have HX := Lib.hid (HM.out (by
              have : (s[k]'hk) = 44 := UInt8.toNat_inj.1 hb
              rw [this]; decide))
            have g : (((s[k]'hk).toNat : Int) == ((((⟨#[59, 44, 58, 61, 60, 43, 45, 42, 47, 37, 40, 41]⟩ : ByteArray)[1]'(by decide)).toNat : Nat) : Int)) = true := by
              show (((s[k]'hk).toNat : Int) == ((44 : Nat) : Int)) = true
              rw [beq_iff_eq]; omega
            clear hb HJ HNX HM HNO
            go_wp2_with fail
            go_quiet (fail)
            go_wp2_with fail
            go_ret
            exact ⟨by rw [HX.out]; rfl, by first | exact Below.refl _ _ | exact below_drewN (Below.refl _ _) _ | exact below_drewN (below_drewN (Below.refl _ _) _) _⟩
          · have HX := Lib.hid (HNX.out (by decide) (fun e => hb (by rw [e]; rfl)))
            have g : (((s[k]'hk).toNat : Int) == ((((⟨#[59, 44, 58, 61, 60, 43, 45, 42, 47, 37, 40, 41]⟩ : ByteArray)[1]'(by decide)).toNat : Nat) : Int)) = false := by
              show (((s[k]'hk).toNat : Int) == ((44 : Nat) : Int)) = false
              rw [beq_eq_false_iff_ne]; omega
            clear hb HJ HNX
            go_wp2_with fail
            go_quiet (fail)
            go_wp2_with fail
            go_roundw
            case rel => exact ⟨2, _, by omega, rfl, rfl, HX⟩
            case measure => simp [intOf]
        · by_cases hb : (s[k]'hk).toNat = 58
          · have HX := Lib.hid (HM.out (by
              have : (s[k]'hk) = 58 := UInt8.toNat_inj.1 hb
              rw [this]; decide))
            have g : (((s[k]'hk).toNat : Int) == ((((⟨#[59, 44, 58, 61, 60, 43, 45, 42, 47, 37, 40, 41]⟩ : ByteArray)[2]'(by decide)).toNat : Nat) : Int)) = true := by
              show (((s[k]'hk).toNat : Int) == ((58 : Nat) : Int)) = true
              rw [beq_iff_eq]; omega
            clear hb HJ HNX HM HNO
            go_wp2_with fail
            go_quiet (fail)
            go_wp2_with fail
            go_ret
            exact ⟨by rw [HX.out]; rfl, by first | exact Below.refl _ _ | exact below_drewN (Below.refl _ _) _ | exact below_drewN (below_drewN (Below.refl _ _) _) _⟩
          · have HX := Lib.hid (HNX.out (by decide) (fun e => hb (by rw [e]; rfl)))
            have g : (((s[k]'hk).toNat : Int) == ((((⟨#[59, 44, 58, 61, 60, 43, 45, 42, 47, 37, 40, 41]⟩ : ByteArray)[2]'(by decide)).toNat : Nat) : Int)) = false := by
              show (((s[k]'hk).toNat : Int) == ((58 : Nat) : Int)) = false
              rw [beq_eq_false_iff_ne]; omega
            clear hb HJ HNX
            go_wp2_with fail
            go_quiet (fail)
            go_wp2_with fail
            go_roundw
            case rel => exact ⟨3, _, by omega, rfl, rfl, HX⟩
            case measure => simp [intOf]
        · by_cases hb : (s[k]'hk).toNat = 61
          · have HX := Lib.hid (HM.out (by
              have : (s[k]'hk) = 61 := UInt8.toNat_inj.1 hb
              rw [this]; decide))
            have g : (((s[k]'hk).toNat : Int) == ((((⟨#[59, 44, 58, 61, 60, 43, 45, 42, 47, 37, 40, 41]⟩ : ByteArray)[3]'(by decide)).toNat : Nat) : Int)) = true := by
              show (((s[k]'hk).toNat : Int) == ((61 : Nat) : Int)) = true
              rw [beq_iff_eq]; omega
            clear hb HJ HNX HM HNO
            go_wp2_with fail
            go_quiet (fail)
            go_wp2_with fail
            go_ret
            exact ⟨by rw [HX.out]; rfl, by first | exact Below.refl _ _ | exact below_drewN (Below.refl _ _) _ | exact below_drewN (below_drewN (Below.refl _ _) _) _⟩
          · have HX := Lib.hid (HNX.out (by decide) (fun e => hb (by rw [e]; rfl)))
            have g : (((s[k]'hk).toNat : Int) == ((((⟨#[59, 44, 58, 61, 60, 43, 45, 42, 47, 37, 40, 41]⟩ : ByteArray)[3]'(by decide)).toNat : Nat) : Int)) = false := by
              show (((s[k]'hk).toNat : Int) == ((61 : Nat) : Int)) = false
              rw [beq_eq_false_iff_ne]; omega
            clear hb HJ HNX
            go_wp2_with fail
            go_quiet (fail)
            go_wp2_with fail
            go_roundw
            case rel => exact ⟨4, _, by omega, rfl, rfl, HX⟩
            case measure => simp [intOf]
        · by_cases hb : (s[k]'hk).toNat = 60
          · have HX := Lib.hid (HM.out (by
              have : (s[k]'hk) = 60 := UInt8.toNat_inj.1 hb
              rw [this]; decide))
            have g : (((s[k]'hk).toNat : Int) == ((((⟨#[59, 44, 58, 61, 60, 43, 45, 42, 47, 37, 40, 41]⟩ : ByteArray)[4]'(by decide)).toNat : Nat) : Int)) = true := by
              show (((s[k]'hk).toNat : Int) == ((60 : Nat) : Int)) = true
              rw [beq_iff_eq]; omega
            clear hb HJ HNX HM HNO
            go_wp2_with fail
            go_quiet (fail)
            go_wp2_with fail
            go_ret
            exact ⟨by rw [HX.out]; rfl, by first | exact Below.refl _ _ | exact below_drewN (Below.refl _ _) _ | exact below_drewN (below_drewN (Below.refl _ _) _) _⟩
          · have HX := Lib.hid (HNX.out (by decide) (fun e => hb (by rw [e]; rfl)))
            have g : (((s[k]'hk).toNat : Int) == ((((⟨#[59, 44, 58, 61, 60, 43, 45, 42, 47, 37, 40, 41]⟩ : ByteArray)[4]'(by decide)).toNat : Nat) : Int)) = false := by
              show (((s[k]'hk).toNat : Int) == ((60 : Nat) : Int)) = false
              rw [beq_eq_false_iff_ne]; omega
            clear hb HJ HNX
            go_wp2_with fail
            go_quiet (fail)
            go_wp2_with fail
            go_roundw
            case rel => exact ⟨5, _, by omega, rfl, rfl, HX⟩
            case measure => simp [intOf]
        · by_cases hb : (s[k]'hk).toNat = 43
          · have HX := Lib.hid (HM.out (by
              have : (s[k]'hk) = 43 := UInt8.toNat_inj.1 hb
              rw [this]; decide))
            have g : (((s[k]'hk).toNat : Int) == ((((⟨#[59, 44, 58, 61, 60, 43, 45, 42, 47, 37, 40, 41]⟩ : ByteArray)[5]'(by decide)).toNat : Nat) : Int)) = true := by
              show (((s[k]'hk).toNat : Int) == ((43 : Nat) : Int)) = true
              rw [beq_iff_eq]; omega
            clear hb HJ HNX HM HNO
            go_wp2_with fail
            go_quiet (fail)
            go_wp2_with fail
            go_ret
            exact ⟨by rw [HX.out]; rfl, by first | exact Below.refl _ _ | exact below_drewN (Below.refl _ _) _ | exact below_drewN (below_drewN (Below.refl _ _) _) _⟩
          · have HX := Lib.hid (HNX.out (by decide) (fun e => hb (by rw [e]; rfl)))
            have g : (((s[k]'hk).toNat : Int) == ((((⟨#[59, 44, 58, 61, 60, 43, 45, 42, 47, 37, 40, 41]⟩ : ByteArray)[5]'(by decide)).toNat : Nat) : Int)) = false := by
              show (((s[k]'hk).toNat : Int) == ((43 : Nat) : Int)) = false
              rw [beq_eq_false_iff_ne]; omega
            clear hb HJ HNX
            go_wp2_with fail
            go_quiet (fail)
            go_wp2_with fail
            go_roundw
            case rel => exact ⟨6, _, by omega, rfl, rfl, HX⟩
            case measure => simp [intOf]
        · by_cases hb : (s[k]'hk).toNat = 45
          · have HX := Lib.hid (HM.out (by
              have : (s[k]'hk) = 45 := UInt8.toNat_inj.1 hb
              rw [this]; decide))
            have g : (((s[k]'hk).toNat : Int) == ((((⟨#[59, 44, 58, 61, 60, 43, 45, 42, 47, 37, 40, 41]⟩ : ByteArray)[6]'(by decide)).toNat : Nat) : Int)) = true := by
              show (((s[k]'hk).toNat : Int) == ((45 : Nat) : Int)) = true
              rw [beq_iff_eq]; omega
            clear hb HJ HNX HM HNO
            go_wp2_with fail
            go_quiet (fail)
            go_wp2_with fail
            go_ret
            exact ⟨by rw [HX.out]; rfl, by first | exact Below.refl _ _ | exact below_drewN (Below.refl _ _) _ | exact below_drewN (below_drewN (Below.refl _ _) _) _⟩
          · have HX := Lib.hid (HNX.out (by decide) (fun e => hb (by rw [e]; rfl)))
            have g : (((s[k]'hk).toNat : Int) == ((((⟨#[59, 44, 58, 61, 60, 43, 45, 42, 47, 37, 40, 41]⟩ : ByteArray)[6]'(by decide)).toNat : Nat) : Int)) = false := by
              show (((s[k]'hk).toNat : Int) == ((45 : Nat) : Int)) = false
              rw [beq_eq_false_iff_ne]; omega
            clear hb HJ HNX
            go_wp2_with fail
            go_quiet (fail)
            go_wp2_with fail
            go_roundw
            case rel => exact ⟨7, _, by omega, rfl, rfl, HX⟩
            case measure => simp [intOf]
        · by_cases hb : (s[k]'hk).toNat = 42
          · have HX := Lib.hid (HM.out (by
              have : (s[k]'hk) = 42 := UInt8.toNat_inj.1 hb
              rw [this]; decide))
            have g : (((s[k]'hk).toNat : Int) == ((((⟨#[59, 44, 58, 61, 60, 43, 45, 42, 47, 37, 40, 41]⟩ : ByteArray)[7]'(by decide)).toNat : Nat) : Int)) = true := by
              show (((s[k]'hk).toNat : Int) == ((42 : Nat) : Int)) = true
              rw [beq_iff_eq]; omega
            clear hb HJ HNX HM HNO
            go_wp2_with fail
            go_quiet (fail)
            go_wp2_with fail
            go_ret
            exact ⟨by rw [HX.out]; rfl, by first | exact Below.refl _ _ | exact below_drewN (Below.refl _ _) _ | exact below_drewN (below_drewN (Below.refl _ _) _) _⟩
          · have HX := Lib.hid (HNX.out (by decide) (fun e => hb (by rw [e]; rfl)))
            have g : (((s[k]'hk).toNat : Int) == ((((⟨#[59, 44, 58, 61, 60, 43, 45, 42, 47, 37, 40, 41]⟩ : ByteArray)[7]'(by decide)).toNat : Nat) : Int)) = false := by
              show (((s[k]'hk).toNat : Int) == ((42 : Nat) : Int)) = false
              rw [beq_eq_false_iff_ne]; omega
            clear hb HJ HNX
            go_wp2_with fail
            go_quiet (fail)
            go_wp2_with fail
            go_roundw
            case rel => exact ⟨8, _, by omega, rfl, rfl, HX⟩
            case measure => simp [intOf]
        · by_cases hb : (s[k]'hk).toNat = 47
          · have HX := Lib.hid (HM.out (by
              have : (s[k]'hk) = 47 := UInt8.toNat_inj.1 hb
              rw [this]; decide))
            have g : (((s[k]'hk).toNat : Int) == ((((⟨#[59, 44, 58, 61, 60, 43, 45, 42, 47, 37, 40, 41]⟩ : ByteArray)[8]'(by decide)).toNat : Nat) : Int)) = true := by
              show (((s[k]'hk).toNat : Int) == ((47 : Nat) : Int)) = true
              rw [beq_iff_eq]; omega
            clear hb HJ HNX HM HNO
            go_wp2_with fail
            go_quiet (fail)
            go_wp2_with fail
            go_ret
            exact ⟨by rw [HX.out]; rfl, by first | exact Below.refl _ _ | exact below_drewN (Below.refl _ _) _ | exact below_drewN (below_drewN (Below.refl _ _) _) _⟩
          · have HX := Lib.hid (HNX.out (by decide) (fun e => hb (by rw [e]; rfl)))
            have g : (((s[k]'hk).toNat : Int) == ((((⟨#[59, 44, 58, 61, 60, 43, 45, 42, 47, 37, 40, 41]⟩ : ByteArray)[8]'(by decide)).toNat : Nat) : Int)) = false := by
              show (((s[k]'hk).toNat : Int) == ((47 : Nat) : Int)) = false
              rw [beq_eq_false_iff_ne]; omega
            clear hb HJ HNX
            go_wp2_with fail
            go_quiet (fail)
            go_wp2_with fail
            go_roundw
            case rel => exact ⟨9, _, by omega, rfl, rfl, HX⟩
            case measure => simp [intOf]
        · by_cases hb : (s[k]'hk).toNat = 37
          · have HX := Lib.hid (HM.out (by
              have : (s[k]'hk) = 37 := UInt8.toNat_inj.1 hb
              rw [this]; decide))
            have g : (((s[k]'hk).toNat : Int) == ((((⟨#[59, 44, 58, 61, 60, 43, 45, 42, 47, 37, 40, 41]⟩ : ByteArray)[9]'(by decide)).toNat : Nat) : Int)) = true := by
              show (((s[k]'hk).toNat : Int) == ((37 : Nat) : Int)) = true
              rw [beq_iff_eq]; omega
            clear hb HJ HNX HM HNO
            go_wp2_with fail
            go_quiet (fail)
            go_wp2_with fail
            go_ret
            exact ⟨by rw [HX.out]; rfl, by first | exact Below.refl _ _ | exact below_drewN (Below.refl _ _) _ | exact below_drewN (below_drewN (Below.refl _ _) _) _⟩
          · have HX := Lib.hid (HNX.out (by decide) (fun e => hb (by rw [e]; rfl)))
            have g : (((s[k]'hk).toNat : Int) == ((((⟨#[59, 44, 58, 61, 60, 43, 45, 42, 47, 37, 40, 41]⟩ : ByteArray)[9]'(by decide)).toNat : Nat) : Int)) = false := by
              show (((s[k]'hk).toNat : Int) == ((37 : Nat) : Int)) = false
              rw [beq_eq_false_iff_ne]; omega
            clear hb HJ HNX
            go_wp2_with fail
            go_quiet (fail)
            go_wp2_with fail
            go_roundw
            case rel => exact ⟨10, _, by omega, rfl, rfl, HX⟩
            case measure => simp [intOf]
        · by_cases hb : (s[k]'hk).toNat = 40
          · have HX := Lib.hid (HM.out (by
              have : (s[k]'hk) = 40 := UInt8.toNat_inj.1 hb
              rw [this]; decide))
            have g : (((s[k]'hk).toNat : Int) == ((((⟨#[59, 44, 58, 61, 60, 43, 45, 42, 47, 37, 40, 41]⟩ : ByteArray)[10]'(by decide)).toNat : Nat) : Int)) = true := by
              show (((s[k]'hk).toNat : Int) == ((40 : Nat) : Int)) = true
              rw [beq_iff_eq]; omega
            clear hb HJ HNX HM HNO
            go_wp2_with fail
            go_quiet (fail)
            go_wp2_with fail
            go_ret
            exact ⟨by rw [HX.out]; rfl, by first | exact Below.refl _ _ | exact below_drewN (Below.refl _ _) _ | exact below_drewN (below_drewN (Below.refl _ _) _) _⟩
          · have HX := Lib.hid (HNX.out (by decide) (fun e => hb (by rw [e]; rfl)))
            have g : (((s[k]'hk).toNat : Int) == ((((⟨#[59, 44, 58, 61, 60, 43, 45, 42, 47, 37, 40, 41]⟩ : ByteArray)[10]'(by decide)).toNat : Nat) : Int)) = false := by
              show (((s[k]'hk).toNat : Int) == ((40 : Nat) : Int)) = false
              rw [beq_eq_false_iff_ne]; omega
            clear hb HJ HNX
            go_wp2_with fail
            go_quiet (fail)
            go_wp2_with fail
            go_roundw
            case rel => exact ⟨11, _, by omega, rfl, rfl, HX⟩
            case measure => simp [intOf]
        · by_cases hb : (s[k]'hk).toNat = 41
          · have HX := Lib.hid (HM.out (by
              have : (s[k]'hk) = 41 := UInt8.toNat_inj.1 hb
              rw [this]; decide))
            have g : (((s[k]'hk).toNat : Int) == ((((⟨#[59, 44, 58, 61, 60, 43, 45, 42, 47, 37, 40, 41]⟩ : ByteArray)[11]'(by decide)).toNat : Nat) : Int)) = true := by
              show (((s[k]'hk).toNat : Int) == ((41 : Nat) : Int)) = true
              rw [beq_iff_eq]; omega
            clear hb HJ HNX HM HNO
            go_wp2_with fail
            go_quiet (fail)
            go_wp2_with fail
            go_ret
            exact ⟨by rw [HX.out]; rfl, by first | exact Below.refl _ _ | exact below_drewN (Below.refl _ _) _ | exact below_drewN (below_drewN (Below.refl _ _) _) _⟩
          · have HX := Lib.hid (HNX.out (by decide) (fun e => hb (by rw [e]; rfl)))
            have g : (((s[k]'hk).toNat : Int) == ((((⟨#[59, 44, 58, 61, 60, 43, 45, 42, 47, 37, 40, 41]⟩ : ByteArray)[11]'(by decide)).toNat : Nat) : Int)) = false := by
              show (((s[k]'hk).toNat : Int) == ((41 : Nat) : Int)) = false
              rw [beq_eq_false_iff_ne]; omega
            clear hb HJ HNX
            go_wp2_with fail
            go_quiet (fail)
            go_wp2_with fail
            go_roundw
            case rel => exact ⟨12, _, by omega, rfl, rfl, HX⟩
            case measure => simp [intOf]
        · have HX := Lib.hid (HNO.out (fun j hj => HJ.out j hj hj))
          clear HJ HNX HM HNO
          go_wp2_with fail
          go_ret
          exact ⟨by rw [HX.out]; rfl, below_drewN (Below.refl _ _) _⟩
  · have n2 : ¬ (k : Int) + 1 < (s.size : Int) := by omega
    have HNT : Hid (¬ (((s[k]'hk).toNat = 60 ∨ (s[k]'hk).toNat = 61) ∧ ∃ h : k + 1 < s.size, (s[k + 1]'h).toNat = 61)) := Lib.hid (fun h => by obtain ⟨_, h, _⟩ := h; exact h1 h)
    have H1 := Lib.hid (sgL_one hk HNT.out)
    have HM : Hid ((s[k]'hk) ∈ ones → sgL (s.data.toList.drop k) = 1) := Lib.hid (fun h => by rw [H1.out, if_pos h])
    have HNO : Hid ((∀ j (hj : j < ones.length), (s[k]'hk) ≠ ones[j]) → sgL (s.data.toList.drop k) = 0) := Lib.hid (fun h => by
      rw [H1.out, if_neg (fun hm => by
        obtain ⟨j, hj, e⟩ := List.getElem_of_mem hm
        exact h j hj e.symm)])
    clear HNT H1
    go_enter Tryd.func34, Tryd.ntmps34
    go_wp2_with fail
    go_loopw [6] (fun i wr => ∃ (m q : Nat), m ≤ 12 ∧ i = .int .i64 m ∧ wr = w.drewN q ∧ Hid (∀ j (hj : j < ones.length), j < m → (s[k]'hk) ≠ ones[j])) (fun i _ => 12 - (intOf i).toNat)
    case atStart => exact ⟨0, 0, Nat.zero_le _, rfl, rfl, Lib.hid (fun j hj h => by omega)⟩
    case round =>
      obtain ⟨m, q, hm, rfl, rfl, HJ⟩ := hrel
      have HNX : Hid (∀ (hm : m < ones.length), (s[k]'hk) ≠ ones[m] → ∀ j (hj : j < ones.length), j < m + 1 → (s[k]'hk) ≠ ones[j]) := Lib.hid (fun hm h j hj hjm => by
        by_cases e : j = m
        · subst e; exact h
        · exact HJ.out j hj (by omega))
      rcases (by omega : m = 0 ∨ m = 1 ∨ m = 2 ∨ m = 3 ∨ m = 4 ∨ m = 5 ∨ m = 6 ∨ m = 7 ∨ m = 8 ∨ m = 9 ∨ m = 10 ∨ m = 11 ∨ m = 12) with rfl | rfl | rfl | rfl | rfl | rfl | rfl | rfl | rfl | rfl | rfl | rfl | rfl
      · by_cases hb : (s[k]'hk).toNat = 59
        · have HX := Lib.hid (HM.out (by
            have : (s[k]'hk) = 59 := UInt8.toNat_inj.1 hb
            rw [this]; decide))
          have g : (((s[k]'hk).toNat : Int) == ((((⟨#[59, 44, 58, 61, 60, 43, 45, 42, 47, 37, 40, 41]⟩ : ByteArray)[0]'(by decide)).toNat : Nat) : Int)) = true := by
            show (((s[k]'hk).toNat : Int) == ((59 : Nat) : Int)) = true
            rw [beq_iff_eq]; omega
          clear hb HJ HNX HM HNO
          go_wp2_with fail
          go_quiet (fail)
          go_wp2_with fail
          go_ret
          exact ⟨by rw [HX.out]; rfl, by first | exact Below.refl _ _ | exact below_drewN (Below.refl _ _) _ | exact below_drewN (below_drewN (Below.refl _ _) _) _⟩
        · have HX := Lib.hid (HNX.out (by decide) (fun e => hb (by rw [e]; rfl)))
          have g : (((s[k]'hk).toNat : Int) == ((((⟨#[59, 44, 58, 61, 60, 43, 45, 42, 47, 37, 40, 41]⟩ : ByteArray)[0]'(by decide)).toNat : Nat) : Int)) = false := by
            show (((s[k]'hk).toNat : Int) == ((59 : Nat) : Int)) = false
            rw [beq_eq_false_iff_ne]; omega
          clear hb HJ HNX
          go_wp2_with fail
          go_quiet (fail)
          go_wp2_with fail
          go_roundw
          case rel => exact ⟨1, _, by omega, rfl, rfl, HX⟩
          case measure => simp [intOf]
      · by_cases hb : (s[k]'hk).toNat = 44
        · have HX := Lib.hid (HM.out (by
            have : (s[k]'hk) = 44 := UInt8.toNat_inj.1 hb
            rw [this]; decide))
          have g : (((s[k]'hk).toNat : Int) == ((((⟨#[59, 44, 58, 61, 60, 43, 45, 42, 47, 37, 40, 41]⟩ : ByteArray)[1]'(by decide)).toNat : Nat) : Int)) = true := by
            show (((s[k]'hk).toNat : Int) == ((44 : Nat) : Int)) = true
            rw [beq_iff_eq]; omega
          clear hb HJ HNX HM HNO
          go_wp2_with fail
          go_quiet (fail)
          go_wp2_with fail
          go_ret
          exact ⟨by rw [HX.out]; rfl, by first | exact Below.refl _ _ | exact below_drewN (Below.refl _ _) _ | exact below_drewN (below_drewN (Below.refl _ _) _) _⟩
        · have HX := Lib.hid (HNX.out (by decide) (fun e => hb (by rw [e]; rfl)))
          have g : (((s[k]'hk).toNat : Int) == ((((⟨#[59, 44, 58, 61, 60, 43, 45, 42, 47, 37, 40, 41]⟩ : ByteArray)[1]'(by decide)).toNat : Nat) : Int)) = false := by
            show (((s[k]'hk).toNat : Int) == ((44 : Nat) : Int)) = false
            rw [beq_eq_false_iff_ne]; omega
          clear hb HJ HNX
          go_wp2_with fail
          go_quiet (fail)
          go_wp2_with fail
          go_roundw
          case rel => exact ⟨2, _, by omega, rfl, rfl, HX⟩
          case measure => simp [intOf]
      · by_cases hb : (s[k]'hk).toNat = 58
        · have HX := Lib.hid (HM.out (by
            have : (s[k]'hk) = 58 := UInt8.toNat_inj.1 hb
            rw [this]; decide))
          have g : (((s[k]'hk).toNat : Int) == ((((⟨#[59, 44, 58, 61, 60, 43, 45, 42, 47, 37, 40, 41]⟩ : ByteArray)[2]'(by decide)).toNat : Nat) : Int)) = true := by
            show (((s[k]'hk).toNat : Int) == ((58 : Nat) : Int)) = true
            rw [beq_iff_eq]; omega
          clear hb HJ HNX HM HNO
          go_wp2_with fail
          go_quiet (fail)
          go_wp2_with fail
          go_ret
          exact ⟨by rw [HX.out]; rfl, by first | exact Below.refl _ _ | exact below_drewN (Below.refl _ _) _ | exact below_drewN (below_drewN (Below.refl _ _) _) _⟩
        · have HX := Lib.hid (HNX.out (by decide) (fun e => hb (by rw [e]; rfl)))
          have g : (((s[k]'hk).toNat : Int) == ((((⟨#[59, 44, 58, 61, 60, 43, 45, 42, 47, 37, 40, 41]⟩ : ByteArray)[2]'(by decide)).toNat : Nat) : Int)) = false := by
            show (((s[k]'hk).toNat : Int) == ((58 : Nat) : Int)) = false
            rw [beq_eq_false_iff_ne]; omega
          clear hb HJ HNX
          go_wp2_with fail
          go_quiet (fail)
          go_wp2_with fail
          go_roundw
          case rel => exact ⟨3, _, by omega, rfl, rfl, HX⟩
          case measure => simp [intOf]
      · by_cases hb : (s[k]'hk).toNat = 61
        · have HX := Lib.hid (HM.out (by
            have : (s[k]'hk) = 61 := UInt8.toNat_inj.1 hb
            rw [this]; decide))
          have g : (((s[k]'hk).toNat : Int) == ((((⟨#[59, 44, 58, 61, 60, 43, 45, 42, 47, 37, 40, 41]⟩ : ByteArray)[3]'(by decide)).toNat : Nat) : Int)) = true := by
            show (((s[k]'hk).toNat : Int) == ((61 : Nat) : Int)) = true
            rw [beq_iff_eq]; omega
          clear hb HJ HNX HM HNO
          go_wp2_with fail
          go_quiet (fail)
          go_wp2_with fail
          go_ret
          exact ⟨by rw [HX.out]; rfl, by first | exact Below.refl _ _ | exact below_drewN (Below.refl _ _) _ | exact below_drewN (below_drewN (Below.refl _ _) _) _⟩
        · have HX := Lib.hid (HNX.out (by decide) (fun e => hb (by rw [e]; rfl)))
          have g : (((s[k]'hk).toNat : Int) == ((((⟨#[59, 44, 58, 61, 60, 43, 45, 42, 47, 37, 40, 41]⟩ : ByteArray)[3]'(by decide)).toNat : Nat) : Int)) = false := by
            show (((s[k]'hk).toNat : Int) == ((61 : Nat) : Int)) = false
            rw [beq_eq_false_iff_ne]; omega
          clear hb HJ HNX
          go_wp2_with fail
          go_quiet (fail)
          go_wp2_with fail
          go_roundw
          case rel => exact ⟨4, _, by omega, rfl, rfl, HX⟩
          case measure => simp [intOf]
      · by_cases hb : (s[k]'hk).toNat = 60
        · have HX := Lib.hid (HM.out (by
            have : (s[k]'hk) = 60 := UInt8.toNat_inj.1 hb
            rw [this]; decide))
          have g : (((s[k]'hk).toNat : Int) == ((((⟨#[59, 44, 58, 61, 60, 43, 45, 42, 47, 37, 40, 41]⟩ : ByteArray)[4]'(by decide)).toNat : Nat) : Int)) = true := by
            show (((s[k]'hk).toNat : Int) == ((60 : Nat) : Int)) = true
            rw [beq_iff_eq]; omega
          clear hb HJ HNX HM HNO
          go_wp2_with fail
          go_quiet (fail)
          go_wp2_with fail
          go_ret
          exact ⟨by rw [HX.out]; rfl, by first | exact Below.refl _ _ | exact below_drewN (Below.refl _ _) _ | exact below_drewN (below_drewN (Below.refl _ _) _) _⟩
        · have HX := Lib.hid (HNX.out (by decide) (fun e => hb (by rw [e]; rfl)))
          have g : (((s[k]'hk).toNat : Int) == ((((⟨#[59, 44, 58, 61, 60, 43, 45, 42, 47, 37, 40, 41]⟩ : ByteArray)[4]'(by decide)).toNat : Nat) : Int)) = false := by
            show (((s[k]'hk).toNat : Int) == ((60 : Nat) : Int)) = false
            rw [beq_eq_false_iff_ne]; omega
          clear hb HJ HNX
          go_wp2_with fail
          go_quiet (fail)
          go_wp2_with fail
          go_roundw
          case rel => exact ⟨5, _, by omega, rfl, rfl, HX⟩
          case measure => simp [intOf]
      · by_cases hb : (s[k]'hk).toNat = 43
        · have HX := Lib.hid (HM.out (by
            have : (s[k]'hk) = 43 := UInt8.toNat_inj.1 hb
            rw [this]; decide))
          have g : (((s[k]'hk).toNat : Int) == ((((⟨#[59, 44, 58, 61, 60, 43, 45, 42, 47, 37, 40, 41]⟩ : ByteArray)[5]'(by decide)).toNat : Nat) : Int)) = true := by
            show (((s[k]'hk).toNat : Int) == ((43 : Nat) : Int)) = true
            rw [beq_iff_eq]; omega
          clear hb HJ HNX HM HNO
          go_wp2_with fail
          go_quiet (fail)
          go_wp2_with fail
          go_ret
          exact ⟨by rw [HX.out]; rfl, by first | exact Below.refl _ _ | exact below_drewN (Below.refl _ _) _ | exact below_drewN (below_drewN (Below.refl _ _) _) _⟩
        · have HX := Lib.hid (HNX.out (by decide) (fun e => hb (by rw [e]; rfl)))
          have g : (((s[k]'hk).toNat : Int) == ((((⟨#[59, 44, 58, 61, 60, 43, 45, 42, 47, 37, 40, 41]⟩ : ByteArray)[5]'(by decide)).toNat : Nat) : Int)) = false := by
            show (((s[k]'hk).toNat : Int) == ((43 : Nat) : Int)) = false
            rw [beq_eq_false_iff_ne]; omega
          clear hb HJ HNX
          go_wp2_with fail
          go_quiet (fail)
          go_wp2_with fail
          go_roundw
          case rel => exact ⟨6, _, by omega, rfl, rfl, HX⟩
          case measure => simp [intOf]
      · by_cases hb : (s[k]'hk).toNat = 45
        · have HX := Lib.hid (HM.out (by
            have : (s[k]'hk) = 45 := UInt8.toNat_inj.1 hb
            rw [this]; decide))
          have g : (((s[k]'hk).toNat : Int) == ((((⟨#[59, 44, 58, 61, 60, 43, 45, 42, 47, 37, 40, 41]⟩ : ByteArray)[6]'(by decide)).toNat : Nat) : Int)) = true := by
            show (((s[k]'hk).toNat : Int) == ((45 : Nat) : Int)) = true
            rw [beq_iff_eq]; omega
          clear hb HJ HNX HM HNO
          go_wp2_with fail
          go_quiet (fail)
          go_wp2_with fail
          go_ret
          exact ⟨by rw [HX.out]; rfl, by first | exact Below.refl _ _ | exact below_drewN (Below.refl _ _) _ | exact below_drewN (below_drewN (Below.refl _ _) _) _⟩
        · have HX := Lib.hid (HNX.out (by decide) (fun e => hb (by rw [e]; rfl)))
          have g : (((s[k]'hk).toNat : Int) == ((((⟨#[59, 44, 58, 61, 60, 43, 45, 42, 47, 37, 40, 41]⟩ : ByteArray)[6]'(by decide)).toNat : Nat) : Int)) = false := by
            show (((s[k]'hk).toNat : Int) == ((45 : Nat) : Int)) = false
            rw [beq_eq_false_iff_ne]; omega
          clear hb HJ HNX
          go_wp2_with fail
          go_quiet (fail)
          go_wp2_with fail
          go_roundw
          case rel => exact ⟨7, _, by omega, rfl, rfl, HX⟩
          case measure => simp [intOf]
      · by_cases hb : (s[k]'hk).toNat = 42
        · have HX := Lib.hid (HM.out (by
            have : (s[k]'hk) = 42 := UInt8.toNat_inj.1 hb
            rw [this]; decide))
          have g : (((s[k]'hk).toNat : Int) == ((((⟨#[59, 44, 58, 61, 60, 43, 45, 42, 47, 37, 40, 41]⟩ : ByteArray)[7]'(by decide)).toNat : Nat) : Int)) = true := by
            show (((s[k]'hk).toNat : Int) == ((42 : Nat) : Int)) = true
            rw [beq_iff_eq]; omega
          clear hb HJ HNX HM HNO
          go_wp2_with fail
          go_quiet (fail)
          go_wp2_with fail
          go_ret
          exact ⟨by rw [HX.out]; rfl, by first | exact Below.refl _ _ | exact below_drewN (Below.refl _ _) _ | exact below_drewN (below_drewN (Below.refl _ _) _) _⟩
        · have HX := Lib.hid (HNX.out (by decide) (fun e => hb (by rw [e]; rfl)))
          have g : (((s[k]'hk).toNat : Int) == ((((⟨#[59, 44, 58, 61, 60, 43, 45, 42, 47, 37, 40, 41]⟩ : ByteArray)[7]'(by decide)).toNat : Nat) : Int)) = false := by
            show (((s[k]'hk).toNat : Int) == ((42 : Nat) : Int)) = false
            rw [beq_eq_false_iff_ne]; omega
          clear hb HJ HNX
          go_wp2_with fail
          go_quiet (fail)
          go_wp2_with fail
          go_roundw
          case rel => exact ⟨8, _, by omega, rfl, rfl, HX⟩
          case measure => simp [intOf]
      · by_cases hb : (s[k]'hk).toNat = 47
        · have HX := Lib.hid (HM.out (by
            have : (s[k]'hk) = 47 := UInt8.toNat_inj.1 hb
            rw [this]; decide))
          have g : (((s[k]'hk).toNat : Int) == ((((⟨#[59, 44, 58, 61, 60, 43, 45, 42, 47, 37, 40, 41]⟩ : ByteArray)[8]'(by decide)).toNat : Nat) : Int)) = true := by
            show (((s[k]'hk).toNat : Int) == ((47 : Nat) : Int)) = true
            rw [beq_iff_eq]; omega
          clear hb HJ HNX HM HNO
          go_wp2_with fail
          go_quiet (fail)
          go_wp2_with fail
          go_ret
          exact ⟨by rw [HX.out]; rfl, by first | exact Below.refl _ _ | exact below_drewN (Below.refl _ _) _ | exact below_drewN (below_drewN (Below.refl _ _) _) _⟩
        · have HX := Lib.hid (HNX.out (by decide) (fun e => hb (by rw [e]; rfl)))
          have g : (((s[k]'hk).toNat : Int) == ((((⟨#[59, 44, 58, 61, 60, 43, 45, 42, 47, 37, 40, 41]⟩ : ByteArray)[8]'(by decide)).toNat : Nat) : Int)) = false := by
            show (((s[k]'hk).toNat : Int) == ((47 : Nat) : Int)) = false
            rw [beq_eq_false_iff_ne]; omega
          clear hb HJ HNX
          go_wp2_with fail
          go_quiet (fail)
          go_wp2_with fail
          go_roundw
          case rel => exact ⟨9, _, by omega, rfl, rfl, HX⟩
          case measure => simp [intOf]
      · by_cases hb : (s[k]'hk).toNat = 37
        · have HX := Lib.hid (HM.out (by
            have : (s[k]'hk) = 37 := UInt8.toNat_inj.1 hb
            rw [this]; decide))
          have g : (((s[k]'hk).toNat : Int) == ((((⟨#[59, 44, 58, 61, 60, 43, 45, 42, 47, 37, 40, 41]⟩ : ByteArray)[9]'(by decide)).toNat : Nat) : Int)) = true := by
            show (((s[k]'hk).toNat : Int) == ((37 : Nat) : Int)) = true
            rw [beq_iff_eq]; omega
          clear hb HJ HNX HM HNO
          go_wp2_with fail
          go_quiet (fail)
          go_wp2_with fail
          go_ret
          exact ⟨by rw [HX.out]; rfl, by first | exact Below.refl _ _ | exact below_drewN (Below.refl _ _) _ | exact below_drewN (below_drewN (Below.refl _ _) _) _⟩
        · have HX := Lib.hid (HNX.out (by decide) (fun e => hb (by rw [e]; rfl)))
          have g : (((s[k]'hk).toNat : Int) == ((((⟨#[59, 44, 58, 61, 60, 43, 45, 42, 47, 37, 40, 41]⟩ : ByteArray)[9]'(by decide)).toNat : Nat) : Int)) = false := by
            show (((s[k]'hk).toNat : Int) == ((37 : Nat) : Int)) = false
            rw [beq_eq_false_iff_ne]; omega
          clear hb HJ HNX
          go_wp2_with fail
          go_quiet (fail)
          go_wp2_with fail
          go_roundw
          case rel => exact ⟨10, _, by omega, rfl, rfl, HX⟩
          case measure => simp [intOf]
      · by_cases hb : (s[k]'hk).toNat = 40
        · have HX := Lib.hid (HM.out (by
            have : (s[k]'hk) = 40 := UInt8.toNat_inj.1 hb
            rw [this]; decide))
          have g : (((s[k]'hk).toNat : Int) == ((((⟨#[59, 44, 58, 61, 60, 43, 45, 42, 47, 37, 40, 41]⟩ : ByteArray)[10]'(by decide)).toNat : Nat) : Int)) = true := by
            show (((s[k]'hk).toNat : Int) == ((40 : Nat) : Int)) = true
            rw [beq_iff_eq]; omega
          clear hb HJ HNX HM HNO
          go_wp2_with fail
          go_quiet (fail)
          go_wp2_with fail
          go_ret
          exact ⟨by rw [HX.out]; rfl, by first | exact Below.refl _ _ | exact below_drewN (Below.refl _ _) _ | exact below_drewN (below_drewN (Below.refl _ _) _) _⟩
        · have HX := Lib.hid (HNX.out (by decide) (fun e => hb (by rw [e]; rfl)))
          have g : (((s[k]'hk).toNat : Int) == ((((⟨#[59, 44, 58, 61, 60, 43, 45, 42, 47, 37, 40, 41]⟩ : ByteArray)[10]'(by decide)).toNat : Nat) : Int)) = false := by
            show (((s[k]'hk).toNat : Int) == ((40 : Nat) : Int)) = false
            rw [beq_eq_false_iff_ne]; omega
          clear hb HJ HNX
          go_wp2_with fail
          go_quiet (fail)
          go_wp2_with fail
          go_roundw
          case rel => exact ⟨11, _, by omega, rfl, rfl, HX⟩
          case measure => simp [intOf]
      · by_cases hb : (s[k]'hk).toNat = 41
        · have HX := Lib.hid (HM.out (by
            have : (s[k]'hk) = 41 := UInt8.toNat_inj.1 hb
            rw [this]; decide))
          have g : (((s[k]'hk).toNat : Int) == ((((⟨#[59, 44, 58, 61, 60, 43, 45, 42, 47, 37, 40, 41]⟩ : ByteArray)[11]'(by decide)).toNat : Nat) : Int)) = true := by
            show (((s[k]'hk).toNat : Int) == ((41 : Nat) : Int)) = true
            rw [beq_iff_eq]; omega
          clear hb HJ HNX HM HNO
          go_wp2_with fail
          go_quiet (fail)
          go_wp2_with fail
          go_ret
          exact ⟨by rw [HX.out]; rfl, by first | exact Below.refl _ _ | exact below_drewN (Below.refl _ _) _ | exact below_drewN (below_drewN (Below.refl _ _) _) _⟩
        · have HX := Lib.hid (HNX.out (by decide) (fun e => hb (by rw [e]; rfl)))
          have g : (((s[k]'hk).toNat : Int) == ((((⟨#[59, 44, 58, 61, 60, 43, 45, 42, 47, 37, 40, 41]⟩ : ByteArray)[11]'(by decide)).toNat : Nat) : Int)) = false := by
            show (((s[k]'hk).toNat : Int) == ((41 : Nat) : Int)) = false
            rw [beq_eq_false_iff_ne]; omega
          clear hb HJ HNX
          go_wp2_with fail
          go_quiet (fail)
          go_wp2_with fail
          go_roundw
          case rel => exact ⟨12, _, by omega, rfl, rfl, HX⟩
          case measure => simp [intOf]
      · have HX := Lib.hid (HNO.out (fun j hj => HJ.out j hj hj))
        clear HJ HNX HM HNO
        go_wp2_with fail
        go_ret
        exact ⟨by rw [HX.out]; rfl, below_drewN (Below.refl _ _) _⟩
end Go.Proofs.YtfmocnbhahcgoaaDoor
