/-
  Contracts of wire.Reader's methods (2): the digits.
-/
import Derived.Test.YtbpkcgkcamkggaaGreatDoorT930
set_option linter.unusedVariables false
namespace Go.Proofs.YtbpkcgkcamkggaaGreatDoor.W
open Go.RowKit Go.Sort

/-- what 'digits' comes to. -/
def DigPost (r : Nat) (f : Bool) (x : Option (Nat × List UInt8)) (w : World) (e : Ending) (w' : World) : Prop :=
  match x with
  | some (n, l) => After 109 r (.int .u64 n) l f w e w'
  | none => After 109 r (.int .u64 0) [] true w e w'

theorem size_len (s : ByteArray) : s.data.toList.length = s.size := Array.length_toList
theorem get_list (s : ByteArray) (k : Nat) (h : k < s.size) : s.data.toList[k]'(by rw [size_len]; exact h) = s[k] := rfl
theorem take_snoc (s : ByteArray) (k : Nat) (h : k < s.size) : s.data.toList.take (k + 1) = s.data.toList.take k ++ [s[k]] := by
  rw [List.take_succ_eq_append_getElem (by rw [size_len]; exact h)]; rfl

theorem digits_over (s : ByteArray) (k : Nat) (hlt : k < s.size) (most : Nat) (h48 : (48 : Int) ≤ (s[k].toNat : Int)) (h57 : (s[k].toNat : Int) ≤ 57) (e : UInt8)
    (hd : ∀ c ∈ s.data.toList.take k, isD c = true) (hov : ((most : Int) - ((s[k].toNat : Int) - 48)) / 10 < ((dval (s.data.toList.take k) : Nat) : Int)) : rdM most e s.data.toList = none := by
  have hd2 : ∀ c ∈ s.data.toList.take (k + 1), isD c = true := by
    rw [take_snoc s k hlt]
    intro c hc
    rw [List.mem_append] at hc
    rcases hc with hc | hc
    · exact hd c hc
    · simp only [List.mem_singleton] at hc
      subst hc
      rw [isD_iff]; omega
  refine rdM_over most e _ (k + 1) hd2 ?_
  rw [take_snoc s k hlt, dval_snoc]
  omega
theorem digits_next (s : ByteArray) (k : Nat) (hlt : k < s.size) (most : Nat) (h48 : (48 : Int) ≤ (s[k].toNat : Int)) (h57 : (s[k].toNat : Int) ≤ 57)
    (hd : ∀ c ∈ s.data.toList.take k, isD c = true) (hov : ¬ ((most : Int) - ((s[k].toNat : Int) - 48)) / 10 < ((dval (s.data.toList.take k) : Nat) : Int)) :
    dval (s.data.toList.take (k + 1)) = 10 * dval (s.data.toList.take k) + (s[k].toNat - 48) ∧ dval (s.data.toList.take (k + 1)) ≤ most ∧ ∀ c ∈ s.data.toList.take (k + 1), isD c = true := by
  rw [take_snoc s k hlt, dval_snoc]
  refine ⟨rfl, by omega, ?_⟩
  intro c hc
  rw [List.mem_append] at hc
  rcases hc with hc | hc
  · exact hd c hc
  · simp only [List.mem_singleton] at hc
    subst hc
    rw [isD_iff]; omega
theorem ext_drop (s : ByteArray) (a : Nat) : (s.extract a s.size).data.toList = s.data.toList.drop a := by
  rw [Lib.extract_data]
  rw [List.take_of_length_le (by rw [List.length_drop, size_len]; omega)]
theorem notD_of (c : UInt8) (h : (c.toNat : Int) < 48 ∨ 57 < (c.toNat : Int)) : isD c = false := by
  cases h2 : isD c with
  | false => rfl
  | true => rw [isD_iff] at h2; omega

set_option maxRecDepth 100000 in
set_option maxHeartbeats 4000000 in
theorem digits_any (r : Nat) (s : ByteArray) (f : Bool) (e : UInt8) (he : isD e = false) (most : Nat) (hm : most ≤ 9223372036854775808) (hm9 : 9 ≤ most) (w : World)
    (hr : RdrAt 109 r s f w) (hsz : s.size ≤ 1099511627776) :
    Calls Tryz.prog 77 #[.pointer (some ⟨r, 0, none⟩), .int .u8 (e.toNat : Int), .int .u64 (most : Int)] w (DigPost r f (rdM most e s.data.toList) w) := by
  have c0 := hr.cell0
  have f0 := hr.froz 0
  have H := Lib.hid hr; clear hr
  have HE := Lib.hid he; clear he
  go_enter Tryz.func77, Tryz.ntmps77
  go_wp2
  go_loop [7, 8] (fun n i => ∃ k : Nat, k ≤ s.size ∧ i = .int .i64 k ∧ n = .int .u64 (dval (s.data.toList.take k) : Nat) ∧ dval (s.data.toList.take k) ≤ most ∧ Hid (∀ c ∈ s.data.toList.take k, isD c = true)) (fun _ i => s.size - (intOf i).toNat)
  case atStart => exact ⟨0, Nat.zero_le _, rfl, rfl, Nat.zero_le _, fun c hc => by simp at hc⟩
  case round =>
    obtain ⟨k, hk, rfl, rfl, hle, hd⟩ := hrel
    have HD := Lib.hid hd; clear hd
    by_cases hlt : k < s.size
    · by_cases h48 : (48 : Int) ≤ (s[k].toNat : Int)
      · by_cases h57 : (s[k].toNat : Int) ≤ 57
        · by_cases hov : ((most : Int) - ((s[k].toNat : Int) - 48)) / 10 < ((dval (s.data.toList.take k) : Nat) : Int)
          · have HN := Lib.hid (digits_over s k hlt most h48 h57 e HD.out.out hov)
            generalize hn : dval (s.data.toList.take k) = n at *
            have Hn := Lib.hid hn; clear hn
            go_wp2_with (go_at_call 78; refine (fail_any r s f _ H.out).mono ?_; rintro e2 w2 ⟨rfl, hA, hg⟩; have HA := Lib.hid hA; clear hA)
            go_ret
            rw [HN.out]
            exact ⟨rfl, HA.out, hg⟩
          · have HN := Lib.hid (digits_next s k hlt most h48 h57 HD.out.out hov)
            have hle2 := HN.out.2.1
            generalize hn : dval (s.data.toList.take k) = n at *
            generalize hn2 : dval (s.data.toList.take (k + 1)) = n2 at *
            have Hn := Lib.hid hn; clear hn
            have Hn2 := Lib.hid hn2; clear hn2
            have hq : 10 * (n : Int) + ((s[k].toNat : Int) - 48) ≤ (most : Int) := by have := HN.out.1; omega
            go_wp2
            go_round
            case rel => exact ⟨k + 1, by omega, by go_num, by rw [Hn2.out]; rw [HN.out.1]; go_num, by rw [Hn2.out]; exact hle2, HN.out.2.2⟩
            case measure => simp [intOf]; omega
        · have hnd : isD s[k] = false := notD_of _ (.inr (by omega))
          have hnc : (57 : Int) < (s[k].toNat : Int) := by omega
          by_cases hk0 : k = 0
          · subst hk0
            have HN := Lib.hid (rdM_bad most e s.data.toList 0 (Nat.zero_le _) HD.out.out (fun h => hnd) (.inl rfl))
            go_wp2_with (go_at_call 78; refine (fail_any r s f _ H.out).mono ?_; rintro e2 w2 ⟨rfl, hA, hg⟩; have HA := Lib.hid hA; clear hA)
            go_ret
            rw [HN.out]
            exact ⟨rfl, HA.out, hg⟩
          · have hkz : ((k : Int) == 0) = false := by simp; omega
            have hks : ((k : Int) == (s.size : Int)) = false := by simp; omega
            have hk0' : (0 : Int) < (k : Int) := by omega
            by_cases hpad : 1 < k ∧ ∃ h : 0 < s.size, s[0] = 48
            · obtain ⟨hk1, hs0, h480⟩ := hpad
              have HN := Lib.hid (rdM_bad most e s.data.toList k (by rw [size_len]; omega) HD.out.out (fun h => hnd) (.inr (.inl ⟨hk1, by rw [size_len]; exact hs0, h480⟩)))
              have hk1' : (1 : Int) < (k : Int) := by omega
              have hb0 : ((s[0].toNat : Int) == 48) = true := by rw [h480]; rfl
              clear h480
              go_wp2_with (go_at_call 78; refine (fail_any r s f _ H.out).mono ?_; rintro e2 w2 ⟨rfl, hA, hg⟩; have HA := Lib.hid hA; clear hA)
              go_ret
              rw [HN.out]
              exact ⟨rfl, HA.out, hg⟩
            · have hz : k = 1 ∨ (1 < k ∧ s[0] ≠ 48) := by
                rcases Nat.lt_or_ge 1 k with h | h
                · exact .inr ⟨h, fun h2 => hpad ⟨h, by omega, h2⟩⟩
                · exact .inl (by omega)
              clear hpad
              by_cases hce : s[k] = e
              · have hne : ((s[k].toNat : Int) != (e.toNat : Int)) = false := by rw [hce]; simp
                have HN := Lib.hid (rdM_good most e s.data.toList k (by rw [size_len]; exact hlt) HD.out.out HE.out hce (by omega) (hz.imp_right (·.2)) hle)
                have HNd := Lib.hid hnd; clear hnd
                clear hce
                generalize hn : dval (s.data.toList.take k) = n at *
                have Hn := Lib.hid hn; clear hn
                rcases hz with hk1 | ⟨hk1, hs0⟩
                · subst hk1
                  go_wp2
                  go_ret
                  rw [HN.out]
                  exact ⟨rfl, ⟨_, ext_drop s _, H.out.set0 _⟩, grown_set _ _ _ _⟩
                · have hk1' : (1 : Int) < (k : Int) := by omega
                  have hb0 : ((s[0].toNat : Int) == 48) = false := by rw [beq_eq_false_iff_ne]; intro h; exact hs0 (UInt8.toNat_inj.1 (by show s[0].toNat = 48; omega))
                  clear hs0
                  go_wp2
                  go_ret
                  rw [HN.out]
                  exact ⟨rfl, ⟨_, ext_drop s _, H.out.set0 _⟩, grown_set _ _ _ _⟩
              · have hne : ((s[k].toNat : Int) != (e.toNat : Int)) = true := by rw [bne_iff_ne]; intro h; exact hce (UInt8.toNat_inj.1 (by omega))
                have HN := Lib.hid (rdM_bad most e s.data.toList k (by rw [size_len]; omega) HD.out.out (fun h => hnd) (.inr (.inr (.inr ⟨by rw [size_len]; exact hlt, hce⟩))))
                have HNd := Lib.hid hnd; clear hnd
                clear hce
                rcases hz with hk1 | ⟨hk1, hs0⟩
                · subst hk1
                  go_wp2_with (go_at_call 78; refine (fail_any r s f _ H.out).mono ?_; rintro e2 w2 ⟨rfl, hA, hg⟩; have HA := Lib.hid hA; clear hA)
                  go_ret
                  rw [HN.out]
                  exact ⟨rfl, HA.out, hg⟩
                · have hk1' : (1 : Int) < (k : Int) := by omega
                  have hb0 : ((s[0].toNat : Int) == 48) = false := by rw [beq_eq_false_iff_ne]; intro h; exact hs0 (UInt8.toNat_inj.1 (by show s[0].toNat = 48; omega))
                  clear hs0
                  go_wp2_with (go_at_call 78; refine (fail_any r s f _ H.out).mono ?_; rintro e2 w2 ⟨rfl, hA, hg⟩; have HA := Lib.hid hA; clear hA)
                  go_ret
                  rw [HN.out]
                  exact ⟨rfl, HA.out, hg⟩
      · have hnd : isD s[k] = false := notD_of _ (.inl (by omega))
        have hnc : (s[k].toNat : Int) < 48 := by omega
        by_cases hk0 : k = 0
        · subst hk0
          have HN := Lib.hid (rdM_bad most e s.data.toList 0 (Nat.zero_le _) HD.out.out (fun h => hnd) (.inl rfl))
          go_wp2_with (go_at_call 78; refine (fail_any r s f _ H.out).mono ?_; rintro e2 w2 ⟨rfl, hA, hg⟩; have HA := Lib.hid hA; clear hA)
          go_ret
          rw [HN.out]
          exact ⟨rfl, HA.out, hg⟩
        · have hkz : ((k : Int) == 0) = false := by simp; omega
          have hks : ((k : Int) == (s.size : Int)) = false := by simp; omega
          have hk0' : (0 : Int) < (k : Int) := by omega
          by_cases hpad : 1 < k ∧ ∃ h : 0 < s.size, s[0] = 48
          · obtain ⟨hk1, hs0, h480⟩ := hpad
            have HN := Lib.hid (rdM_bad most e s.data.toList k (by rw [size_len]; omega) HD.out.out (fun h => hnd) (.inr (.inl ⟨hk1, by rw [size_len]; exact hs0, h480⟩)))
            have hk1' : (1 : Int) < (k : Int) := by omega
            have hb0 : ((s[0].toNat : Int) == 48) = true := by rw [h480]; rfl
            clear h480
            go_wp2_with (go_at_call 78; refine (fail_any r s f _ H.out).mono ?_; rintro e2 w2 ⟨rfl, hA, hg⟩; have HA := Lib.hid hA; clear hA)
            go_ret
            rw [HN.out]
            exact ⟨rfl, HA.out, hg⟩
          · have hz : k = 1 ∨ (1 < k ∧ s[0] ≠ 48) := by
              rcases Nat.lt_or_ge 1 k with h | h
              · exact .inr ⟨h, fun h2 => hpad ⟨h, by omega, h2⟩⟩
              · exact .inl (by omega)
            clear hpad
            by_cases hce : s[k] = e
            · have hne : ((s[k].toNat : Int) != (e.toNat : Int)) = false := by rw [hce]; simp
              have HN := Lib.hid (rdM_good most e s.data.toList k (by rw [size_len]; exact hlt) HD.out.out HE.out hce (by omega) (hz.imp_right (·.2)) hle)
              have HNd := Lib.hid hnd; clear hnd
              clear hce
              generalize hn : dval (s.data.toList.take k) = n at *
              have Hn := Lib.hid hn; clear hn
              rcases hz with hk1 | ⟨hk1, hs0⟩
              · subst hk1
                go_wp2
                go_ret
                rw [HN.out]
                exact ⟨rfl, ⟨_, ext_drop s _, H.out.set0 _⟩, grown_set _ _ _ _⟩
              · have hk1' : (1 : Int) < (k : Int) := by omega
                have hb0 : ((s[0].toNat : Int) == 48) = false := by rw [beq_eq_false_iff_ne]; intro h; exact hs0 (UInt8.toNat_inj.1 (by show s[0].toNat = 48; omega))
                clear hs0
                go_wp2
                go_ret
                rw [HN.out]
                exact ⟨rfl, ⟨_, ext_drop s _, H.out.set0 _⟩, grown_set _ _ _ _⟩
            · have hne : ((s[k].toNat : Int) != (e.toNat : Int)) = true := by rw [bne_iff_ne]; intro h; exact hce (UInt8.toNat_inj.1 (by omega))
              have HN := Lib.hid (rdM_bad most e s.data.toList k (by rw [size_len]; omega) HD.out.out (fun h => hnd) (.inr (.inr (.inr ⟨by rw [size_len]; exact hlt, hce⟩))))
              have HNd := Lib.hid hnd; clear hnd
              clear hce
              rcases hz with hk1 | ⟨hk1, hs0⟩
              · subst hk1
                go_wp2_with (go_at_call 78; refine (fail_any r s f _ H.out).mono ?_; rintro e2 w2 ⟨rfl, hA, hg⟩; have HA := Lib.hid hA; clear hA)
                go_ret
                rw [HN.out]
                exact ⟨rfl, HA.out, hg⟩
              · have hk1' : (1 : Int) < (k : Int) := by omega
                have hb0 : ((s[0].toNat : Int) == 48) = false := by rw [beq_eq_false_iff_ne]; intro h; exact hs0 (UInt8.toNat_inj.1 (by show s[0].toNat = 48; omega))
                clear hs0
                go_wp2_with (go_at_call 78; refine (fail_any r s f _ H.out).mono ?_; rintro e2 w2 ⟨rfl, hA, hg⟩; have HA := Lib.hid hA; clear hA)
                go_ret
                rw [HN.out]
                exact ⟨rfl, HA.out, hg⟩
    · obtain rfl : k = s.size := by omega
      have HN := fun hb => Lib.hid (rdM_bad most e s.data.toList s.size (by rw [size_len]; omega) HD.out.out (fun h => absurd h (by rw [size_len]; omega)) hb)
      have hss : ((s.size : Int) == (s.size : Int)) = true := by simp
      by_cases hk0 : s.size = 0
      · have HN := HN (.inl hk0)
        have hkz : ((s.size : Int) == 0) = true := beq_iff_eq.2 (by omega)
        have hk0' : (s.size : Int) ≤ 0 := by omega
        have HK := Lib.hid hk0; clear hk0
        go_wp2_with (go_at_call 78; refine (fail_any r s f _ H.out).mono ?_; rintro e2 w2 ⟨rfl, hA, hg⟩; have HA := Lib.hid hA; clear hA)
        go_ret
        rw [HN.out]
        exact ⟨rfl, HA.out, hg⟩
      · have HN := HN (.inr (.inr (.inl (size_len s).symm)))
        have hkz : ((s.size : Int) == 0) = false := beq_eq_false_iff_ne.2 (by omega)
        have hk0' : (0 : Int) < (s.size : Int) := by omega
        by_cases hk1 : 1 < s.size
        · have hk1' : (1 : Int) < (s.size : Int) := by omega
          by_cases h480 : s[0] = 48
          · have hb0 : ((s[0].toNat : Int) == 48) = true := by rw [h480]; rfl
            clear h480
            go_wp2_with (go_at_call 78; refine (fail_any r s f _ H.out).mono ?_; rintro e2 w2 ⟨rfl, hA, hg⟩; have HA := Lib.hid hA; clear hA)
            go_ret
            rw [HN.out]
            exact ⟨rfl, HA.out, hg⟩
          · have hb0 : ((s[0].toNat : Int) == 48) = false := by rw [beq_eq_false_iff_ne]; intro h; exact h480 (UInt8.toNat_inj.1 (by show s[0].toNat = 48; omega))
            clear h480
            go_wp2_with (go_at_call 78; refine (fail_any r s f _ H.out).mono ?_; rintro e2 w2 ⟨rfl, hA, hg⟩; have HA := Lib.hid hA; clear hA)
            go_ret
            rw [HN.out]
            exact ⟨rfl, HA.out, hg⟩
        · have hk1' : (s.size : Int) ≤ 1 := by omega
          go_wp2_with (go_at_call 78; refine (fail_any r s f _ H.out).mono ?_; rintro e2 w2 ⟨rfl, hA, hg⟩; have HA := Lib.hid hA; clear hA)
          go_ret
          rw [HN.out]
          exact ⟨rfl, HA.out, hg⟩

end Go.Proofs.YtbpkcgkcamkggaaGreatDoor.W
