/-
  Layer 14: the contract of the reference's token.
-/
import Derived.Test.YtfmocnbhahcgoaaDoorP3
set_option linter.unusedVariables false
set_option maxRecDepth 100000
namespace Go.Proofs.YtfmocnbhahcgoaaDoor
open Go.RowKit

theorem tw {f : UInt8 → Bool} : ∀ (l : List UInt8) (n : Nat), n ≤ l.length → (∀ j b, j < n → l[j]? = some b → f b = true) → (∀ b, l[n]? = some b → f b = false) → l.takeWhile f = l.take n
  | [], n, h, _, _ => by simp
  | a :: l, 0, _, _, h2 => by
    rw [List.takeWhile_cons_of_neg (by rw [h2 a rfl]; decide)]; rfl
  | a :: l, n + 1, h, h1, h2 => by
    rw [List.takeWhile_cons_of_pos (h1 0 a (by omega) rfl), List.take_succ_cons, tw l n (by simpa using h) (fun j b hj hb => h1 (j + 1) b (by omega) (by simpa using hb)) (fun b hb => h2 b (by simpa using hb))]
theorem take_at {f : UInt8 → Bool} {s : ByteArray} {k m : Nat} (hkm : k ≤ m) (hm : m ≤ s.size) (h : ∀ j (hj : j < s.size), k ≤ j → j < m → f (s[j]'hj) = true) (he : ∀ hj : m < s.size, f (s[m]'hj) = false) : (s.data.toList.drop k).takeWhile f = (s.data.toList.drop k).take (m - k) := by
  refine tw _ _ (by rw [List.length_drop, size_list]; omega) (fun j b hj hb => ?_) (fun b hb => ?_)
  · rw [List.getElem?_drop] at hb
    have hjs : k + j < s.size := by omega
    rw [at_list hjs] at hb
    injection hb with hb
    rw [← hb]; exact h _ hjs (by omega) (by omega)
  · rw [List.getElem?_drop, show k + (m - k) = m by omega] at hb
    by_cases hms : m < s.size
    · rw [at_list hms] at hb
      injection hb with hb
      rw [← hb]; exact he hms
    · rw [List.getElem?_eq_none (by rw [size_list]; omega)] at hb; cases hb
theorem ext_at {s : ByteArray} {k m : Nat} : (s.extract k m).data.toList = (s.data.toList.drop k).take (m - k) := Lib.extract_data s k m
/-- a token with its place, or an error. -/
def T1P (x : T1) (k : Nat) (w : World) (e : Ending) (w' : World) : Prop := ∃ s : ByteArray, s.data.toList = x.t ∧ e = .returned (.tuple #[.agg #[.int .i64 x.k, .string s, .int .i64 x.n, .int .i64 (if x.e = 0 then (k : Int) else 0)], .int .i64 x.e]) ∧ Below w.heap.size w w'
set_option maxHeartbeats 80000000 in
theorem rtoken_any (s : ByteArray) (k : Nat) (w : World) (hs : s.size ≤ 1099511627776) (hk : k < s.size) : Calls Tryd.prog 24 #[.string s, .int .i64 k] w (T1P (firstT (s.data.toList.drop k)) k w) := by
  have HL := Lib.hid letter_any
  have HD := Lib.hid digit_any
  have HNUM := Lib.hid rnumber_any
  have HSG := Lib.hid (fun w' => rsign_any s k w' hs hk)
  have HSZ := Lib.hid (size_list s)
  have n0 : (0 : Int) ≤ (k : Int) := by omega
  have n1 : (k : Int) < (s.size : Int) := by omega
  have HLK := Lib.hid (HL.out (s[k]'hk))
  have HDK := Lib.hid (HD.out (s[k]'hk))
  have HH1 := Lib.hid (hd_drop (f := ltr) hk)
  have HH2 := Lib.hid (hd_drop (f := dgt) hk)
  have R0 := RC.start w
  obtain ⟨g, hg⟩ : ∃ g, g = w.heap.size := ⟨_, rfl⟩
  rw [← hg] at R0
  have R0 := Lib.hid R0
  go_enter Tryd.func24, Tryd.ntmps24
  go_wp2_with fail
  rw [← hg]
  generalize w.alloc (.cells #[.int .i64 0, .string ⟨#[]⟩, .int .i64 0, .int .i64 0] 25) = w0 at *
  clear hg
  refine (HLK.out w0).mono ?_
  rintro e w1 ⟨rfl, hb1⟩
  have R1 := Lib.hid (R0.out.go hb1); clear hb1 R0 HLK
  cases hl : ltr (s[k]'hk) with
  | true =>
    have HFF : Hid (firstT (s.data.toList.drop k) = wordT ((s.data.toList.drop k).takeWhile aln)) := Lib.hid (by unfold firstT; rw [HH1.out, hl, if_pos rfl])
    have HA0 : Hid (∀ j (hj : j < s.size), k ≤ j → j < k + 1 → aln (s[j]'hj) = true) := Lib.hid (fun j hj h1 h2 => by
      obtain rfl : j = k := by omega
      unfold aln; rw [hl]; rfl)
    have HHL := Lib.hid (HH1.out.trans hl)
    clear hl HH1 HH2 HDK HNUM HSG
    go_wp2_with fail
    go_loopw [6] (fun i wr => ∃ (m : Nat), k + 1 ≤ m ∧ m ≤ s.size ∧ i = .int .i64 m ∧ Hid (∀ j (hj : j < s.size), k ≤ j → j < m → aln (s[j]'hj) = true) ∧ Hid (RC w g wr)) (fun i _ => s.size - (intOf i).toNat)
    case atStart => exact ⟨k + 1, Nat.le_refl _, hk, by go_num, HA0, R1⟩
    case round =>
      clear HA0 R1
      obtain ⟨m, hm1, hm2, rfl, HA, HR⟩ := hrel
      have HTK : Hid ((∀ hj : m < s.size, aln (s[m]'hj) = false) → (s.data.toList.drop k).takeWhile aln = (s.extract k m).data.toList) := Lib.hid (fun h => by rw [ext_at]; exact take_at (by omega) hm2 HA.out h)
      have HZL : Hid ((s.extract k m).data.toList.length = m - k) := Lib.hid (by rw [ext_at, List.length_take, List.length_drop, HSZ.out]; omega)
      have HAL : Hid ((∀ hj : m < s.size, aln (s[m]'hj) = false) → (s.extract k m).data.toList.all aln = true) := Lib.hid (fun h => by rw [← HTK.out h]; exact take_all _)
      have HHD : Hid (hdB ltr (s.extract k m).data.toList = true) := Lib.hid (by
        rw [ext_at, hd_cut (f := ltr) (l := s.data.toList.drop k) (by
          intro h0; have := congrArg List.length h0; rw [List.length_take, List.length_drop, HSZ.out] at this; simp only [List.length_nil] at this; omega) (List.take_prefix _ _)]
        exact HHL.out)
      by_cases hlt : m < s.size
      · have HLM := Lib.hid (HL.out (s[m]'hlt))
        have HDM := Lib.hid (HD.out (s[m]'hlt))
        have q0 : (0 : Int) ≤ (m : Int) := by omega
        have q1 : (m : Int) < (s.size : Int) := by omega
        have HNX : Hid (aln (s[m]'hlt) = true → ∀ j (hj : j < s.size), k ≤ j → j < m + 1 → aln (s[j]'hj) = true) := Lib.hid (fun h j hj h1 h2 => by
          by_cases e : j = m
          · subst e; exact h
          · exact HA.out j hj h1 (by omega))
        go_wp2_with fail
        refine (HLM.out _).mono ?_
        rintro e w2 ⟨rfl, hb2⟩
        have R2 := Lib.hid (HR.out.go hb2); clear hb2 HR HLM
        cases hlm : ltr (s[m]'hlt) with
        | true =>
          have HX := Lib.hid (HNX.out (by unfold aln; rw [hlm]; rfl))
          clear hlm HNX HA HTK HZL HAL HHD HDM
          go_wp2_with fail
          go_roundw
          case rel => exact ⟨m + 1, by omega, by omega, by go_num, HX, R2⟩
          case measure => simp [intOf]; omega
        | false =>
          go_wp2_with fail
          refine (HDM.out _).mono ?_
          rintro e w3 ⟨rfl, hb3⟩
          have R3 := Lib.hid (R2.out.go hb3); clear hb3 R2 HDM
          cases hdm : dgt (s[m]'hlt) with
          | true =>
            have HX := Lib.hid (HNX.out (by unfold aln; rw [hdm, Bool.or_true]))
            clear hlm hdm HNX HA HTK HZL HAL HHD
            go_wp2_with fail
            go_roundw
            case rel => exact ⟨m + 1, by omega, by omega, by go_num, HX, R3⟩
            case measure => simp [intOf]; omega
          | false =>
            have HE : Hid (∀ hj : m < s.size, aln (s[m]'hj) = false) := Lib.hid (fun _ => by unfold aln; rw [hlm, hdm]; rfl)
            clear hlm hdm HNX HA
            have htk := HTK.out HE.out
            have hal := HAL.out HE.out
            have HSL : Hid ((s.extract k m).data.toList = (s.extract k m).data.toList) := Lib.hid rfl
            have hzl := HZL.out
            have s0 : (k : Int) ≤ (m : Int) := by omega
            have s1 : (m : Int) ≤ (s.size : Int) := by omega
            have r1 := R3.out
            obtain ⟨c0, c1, c2, c3⟩ := r1.c
            have f0 := r1.f 0; have f1 := r1.f 1; have f2 := r1.f 2; have f3 := r1.f 3
            have gl := r1.lt
            clear r1
            by_cases h20 : m - k ≤ 20
            · have HF : Hid (firstT (s.data.toList.drop k) = ⟨0, 0, (s.extract k m).data.toList, 0⟩) := Lib.hid (by
                rw [HFF.out, htk]; unfold wordT
                rw [if_pos (by unfold wordB; rw [HHD.out, hal, hzl, decide_eq_true h20]; rfl)])
              have s2 : ¬ (20 : Int) < (m : Int) - (k : Int) := by omega
              clear htk hal hzl HFF HTK HAL HZL HHD HE h20
              go_wp2_with fail
              refine bodyPost_ret (rct_row rfl _ _ g 25 #[.int .i64 0, .string (s.extract k m), .int .i64 0, .int .i64 k] (0, 0) _ rfl ?_ Tryd.underlying25 rfl (by kernel_rfl)) rfl ?_
              · have hz := R3.out.at_
                simp [World.setCell, Array.getElem?_modify, hz, Array.setIfInBounds]
              · rw [HF.out]
                refine ⟨_, ?_, rfl, ?_⟩
                · first | rfl | assumption | exact HSL.out
                · have hgb := R3.out.eq
                  have := R3.out.bel
                  repeat' first | assumption | refine Below.setCell ?_ (by simp only; omega) _
            · have HF : Hid (firstT (s.data.toList.drop k) = ⟨15, 0, [], 0⟩) := Lib.hid (by
                rw [HFF.out, htk]; unfold wordT
                rw [if_neg (by unfold wordB; rw [hzl, decide_eq_false h20, Bool.and_false]; decide)])
              have s2 : (20 : Int) < (m : Int) - (k : Int) := by omega
              clear htk hal hzl HFF HTK HAL HZL HHD HE h20
              go_wp2_with fail
              refine bodyPost_ret (rct_row rfl _ _ g 25 #[.int .i64 0, .string ⟨#[]⟩, .int .i64 0, .int .i64 0] (0, 0) _ rfl ?_ Tryd.underlying25 rfl (by kernel_rfl)) rfl ?_
              · have hz := R3.out.at_
                simp [World.setCell, Array.getElem?_modify, hz, Array.setIfInBounds]
              · rw [HF.out]
                refine ⟨_, ?_, rfl, ?_⟩
                · first | rfl | assumption | exact HSL.out
                · have hgb := R3.out.eq
                  have := R3.out.bel
                  repeat' first | assumption | refine Below.setCell ?_ (by simp only; omega) _
      · have HE : Hid (∀ hj : m < s.size, aln (s[m]'hj) = false) := Lib.hid (fun hj => absurd hj hlt)
        have q1 : ¬ (m : Int) < (s.size : Int) := by omega
        clear HA
        have htk := HTK.out HE.out
        have hal := HAL.out HE.out
        have HSL : Hid ((s.extract k m).data.toList = (s.extract k m).data.toList) := Lib.hid rfl
        have hzl := HZL.out
        have s0 : (k : Int) ≤ (m : Int) := by omega
        have s1 : (m : Int) ≤ (s.size : Int) := by omega
        have r1 := HR.out
        obtain ⟨c0, c1, c2, c3⟩ := r1.c
        have f0 := r1.f 0; have f1 := r1.f 1; have f2 := r1.f 2; have f3 := r1.f 3
        have gl := r1.lt
        clear r1
        by_cases h20 : m - k ≤ 20
        · have HF : Hid (firstT (s.data.toList.drop k) = ⟨0, 0, (s.extract k m).data.toList, 0⟩) := Lib.hid (by
            rw [HFF.out, htk]; unfold wordT
            rw [if_pos (by unfold wordB; rw [HHD.out, hal, hzl, decide_eq_true h20]; rfl)])
          have s2 : ¬ (20 : Int) < (m : Int) - (k : Int) := by omega
          clear htk hal hzl HFF HTK HAL HZL HHD HE h20
          go_wp2_with fail
          refine bodyPost_ret (rct_row rfl _ _ g 25 #[.int .i64 0, .string (s.extract k m), .int .i64 0, .int .i64 k] (0, 0) _ rfl ?_ Tryd.underlying25 rfl (by kernel_rfl)) rfl ?_
          · have hz := HR.out.at_
            simp [World.setCell, Array.getElem?_modify, hz, Array.setIfInBounds]
          · rw [HF.out]
            refine ⟨_, ?_, rfl, ?_⟩
            · first | rfl | assumption | exact HSL.out
            · have hgb := HR.out.eq
              have := HR.out.bel
              repeat' first | assumption | refine Below.setCell ?_ (by simp only; omega) _
        · have HF : Hid (firstT (s.data.toList.drop k) = ⟨15, 0, [], 0⟩) := Lib.hid (by
            rw [HFF.out, htk]; unfold wordT
            rw [if_neg (by unfold wordB; rw [hzl, decide_eq_false h20, Bool.and_false]; decide)])
          have s2 : (20 : Int) < (m : Int) - (k : Int) := by omega
          clear htk hal hzl HFF HTK HAL HZL HHD HE h20
          go_wp2_with fail
          refine bodyPost_ret (rct_row rfl _ _ g 25 #[.int .i64 0, .string ⟨#[]⟩, .int .i64 0, .int .i64 0] (0, 0) _ rfl ?_ Tryd.underlying25 rfl (by kernel_rfl)) rfl ?_
          · have hz := HR.out.at_
            simp [World.setCell, Array.getElem?_modify, hz, Array.setIfInBounds]
          · rw [HF.out]
            refine ⟨_, ?_, rfl, ?_⟩
            · first | rfl | assumption | exact HSL.out
            · have hgb := HR.out.eq
              have := HR.out.bel
              repeat' first | assumption | refine Below.setCell ?_ (by simp only; omega) _
  | false =>
    go_wp2_with fail
    refine (HDK.out w1).mono ?_
    rintro e w2 ⟨rfl, hb2⟩
    have R2 := Lib.hid (R1.out.go hb2); clear hb2 R1 HDK
    cases hd : dgt (s[k]'hk) with
    | true =>
      have HFF : Hid (firstT (s.data.toList.drop k) = numT ((s.data.toList.drop k).takeWhile dgt)) := Lib.hid (by unfold firstT; rw [HH1.out, hl, if_neg (by decide), HH2.out, hd, if_pos rfl])
      have HA0 : Hid (∀ j (hj : j < s.size), k ≤ j → j < k + 1 → dgt (s[j]'hj) = true) := Lib.hid (fun j hj h1 h2 => by
        obtain rfl : j = k := by omega
        exact hd)
      clear hl hd HH1 HH2 HSG
      go_wp2_with fail
      go_loopw [6] (fun i wr => ∃ (m : Nat), k + 1 ≤ m ∧ m ≤ s.size ∧ i = .int .i64 m ∧ Hid (∀ j (hj : j < s.size), k ≤ j → j < m → dgt (s[j]'hj) = true) ∧ Hid (RC w g wr)) (fun i _ => s.size - (intOf i).toNat)
      case atStart => exact ⟨k + 1, Nat.le_refl _, hk, by go_num, HA0, R2⟩
      case round =>
        clear HA0 R2
        obtain ⟨m, hm1, hm2, rfl, HA, HR⟩ := hrel
        have HTK : Hid ((∀ hj : m < s.size, dgt (s[m]'hj) = false) → (s.data.toList.drop k).takeWhile dgt = (s.extract k m).data.toList) := Lib.hid (fun h => by rw [ext_at]; exact take_at (by omega) hm2 HA.out h)
        have HZL : Hid ((s.extract k m).size ≤ 1099511627776) := Lib.hid (by rw [size_of ext_at, List.length_take, List.length_drop, HSZ.out]; omega)
        by_cases hlt : m < s.size
        · have HDM := Lib.hid (HD.out (s[m]'hlt))
          have q0 : (0 : Int) ≤ (m : Int) := by omega
          have q1 : (m : Int) < (s.size : Int) := by omega
          have HNX : Hid (dgt (s[m]'hlt) = true → ∀ j (hj : j < s.size), k ≤ j → j < m + 1 → dgt (s[j]'hj) = true) := Lib.hid (fun h j hj h1 h2 => by
            by_cases e : j = m
            · subst e; exact h
            · exact HA.out j hj h1 (by omega))
          go_wp2_with fail
          refine (HDM.out _).mono ?_
          rintro e w3 ⟨rfl, hb3⟩
          have R3 := Lib.hid (HR.out.go hb3); clear hb3 HR HDM
          cases hdm : dgt (s[m]'hlt) with
          | true =>
            have HX := Lib.hid (HNX.out hdm)
            clear hdm HNX HA HTK HZL
            go_wp2_with fail
            go_roundw
            case rel => exact ⟨m + 1, by omega, by omega, by go_num, HX, R3⟩
            case measure => simp [intOf]; omega
          | false =>
            have HE : Hid (∀ hj : m < s.size, dgt (s[m]'hj) = false) := Lib.hid (fun _ => hdm)
            clear hdm HNX HA
            have htk := HTK.out HE.out
            have s0 : (k : Int) ≤ (m : Int) := by omega
            have s1 : (m : Int) ≤ (s.size : Int) := by omega
            have HCN := Lib.hid (fun w' => HNUM.out (s.extract k m) w' HZL.out)
            have HFN : Hid (firstT (s.data.toList.drop k) = numT (s.extract k m).data.toList) := Lib.hid (by rw [HFF.out, htk])
            clear htk HFF HTK HE
            go_wp2_with fail
            refine (HCN.out _).mono ?_
            rintro e w5 ⟨rfl, hb5⟩
            have R5 := Lib.hid (R3.out.go hb5); clear hb5 HCN
            have HSL : Hid ((s.extract k m).data.toList = (s.extract k m).data.toList) := Lib.hid rfl
            have r1 := R5.out
            obtain ⟨c0, c1, c2, c3⟩ := r1.c
            have f0 := r1.f 0; have f1 := r1.f 1; have f2 := r1.f 2; have f3 := r1.f 3
            have gl := r1.lt
            clear r1
            cases hnb : numB (s.extract k m).data.toList with
            | true =>
              have HF : Hid (firstT (s.data.toList.drop k) = ⟨0, 1, (s.extract k m).data.toList, (valD (s.extract k m).data.toList : Int)⟩) := Lib.hid (by rw [HFN.out]; unfold numT; rw [if_pos hnb])
              rw [show numV (s.extract k m).data.toList = (valD (s.extract k m).data.toList : Int) by unfold numV; rw [if_pos hnb]]
              clear hnb HFN
              go_wp2_with fail
              refine bodyPost_ret (rct_row rfl _ _ g 25 #[.int .i64 1, .string (s.extract k m), .int .i64 (valD (s.extract k m).data.toList : Int), .int .i64 k] (0, 0) _ rfl ?_ Tryd.underlying25 rfl (by kernel_rfl)) rfl ?_
              · have hz := R5.out.at_
                simp [World.setCell, Array.getElem?_modify, hz, Array.setIfInBounds]
              · rw [HF.out]
                refine ⟨_, ?_, rfl, ?_⟩
                · first | rfl | assumption | exact HSL.out
                · have hgb := R5.out.eq
                  have := R5.out.bel
                  repeat' first | assumption | refine Below.setCell ?_ (by simp only; omega) _
            | false =>
              have HF : Hid (firstT (s.data.toList.drop k) = ⟨3, 0, [], 0⟩) := Lib.hid (by rw [HFN.out]; unfold numT; rw [if_neg (by rw [hnb]; decide)])
              rw [show numV (s.extract k m).data.toList = 0 by unfold numV; rw [if_neg (by rw [hnb]; decide)]]
              clear hnb HFN
              go_wp2_with fail
              refine bodyPost_ret (rct_row rfl _ _ g 25 #[.int .i64 0, .string ⟨#[]⟩, .int .i64 0, .int .i64 0] (0, 0) _ rfl ?_ Tryd.underlying25 rfl (by kernel_rfl)) rfl ?_
              · have hz := R5.out.at_
                simp [World.setCell, Array.getElem?_modify, hz, Array.setIfInBounds]
              · rw [HF.out]
                refine ⟨_, ?_, rfl, ?_⟩
                · first | rfl | assumption | exact HSL.out
                · have hgb := R5.out.eq
                  have := R5.out.bel
                  repeat' first | assumption | refine Below.setCell ?_ (by simp only; omega) _
        · have HE : Hid (∀ hj : m < s.size, dgt (s[m]'hj) = false) := Lib.hid (fun hj => absurd hj hlt)
          have q1 : ¬ (m : Int) < (s.size : Int) := by omega
          clear HA
          have htk := HTK.out HE.out
          have s0 : (k : Int) ≤ (m : Int) := by omega
          have s1 : (m : Int) ≤ (s.size : Int) := by omega
          have HCN := Lib.hid (fun w' => HNUM.out (s.extract k m) w' HZL.out)
          have HFN : Hid (firstT (s.data.toList.drop k) = numT (s.extract k m).data.toList) := Lib.hid (by rw [HFF.out, htk])
          clear htk HFF HTK HE
          go_wp2_with fail
          refine (HCN.out _).mono ?_
          rintro e w5 ⟨rfl, hb5⟩
          have R5 := Lib.hid (HR.out.go hb5); clear hb5 HCN
          have HSL : Hid ((s.extract k m).data.toList = (s.extract k m).data.toList) := Lib.hid rfl
          have r1 := R5.out
          obtain ⟨c0, c1, c2, c3⟩ := r1.c
          have f0 := r1.f 0; have f1 := r1.f 1; have f2 := r1.f 2; have f3 := r1.f 3
          have gl := r1.lt
          clear r1
          cases hnb : numB (s.extract k m).data.toList with
          | true =>
            have HF : Hid (firstT (s.data.toList.drop k) = ⟨0, 1, (s.extract k m).data.toList, (valD (s.extract k m).data.toList : Int)⟩) := Lib.hid (by rw [HFN.out]; unfold numT; rw [if_pos hnb])
            rw [show numV (s.extract k m).data.toList = (valD (s.extract k m).data.toList : Int) by unfold numV; rw [if_pos hnb]]
            clear hnb HFN
            go_wp2_with fail
            refine bodyPost_ret (rct_row rfl _ _ g 25 #[.int .i64 1, .string (s.extract k m), .int .i64 (valD (s.extract k m).data.toList : Int), .int .i64 k] (0, 0) _ rfl ?_ Tryd.underlying25 rfl (by kernel_rfl)) rfl ?_
            · have hz := R5.out.at_
              simp [World.setCell, Array.getElem?_modify, hz, Array.setIfInBounds]
            · rw [HF.out]
              refine ⟨_, ?_, rfl, ?_⟩
              · first | rfl | assumption | exact HSL.out
              · have hgb := R5.out.eq
                have := R5.out.bel
                repeat' first | assumption | refine Below.setCell ?_ (by simp only; omega) _
          | false =>
            have HF : Hid (firstT (s.data.toList.drop k) = ⟨3, 0, [], 0⟩) := Lib.hid (by rw [HFN.out]; unfold numT; rw [if_neg (by rw [hnb]; decide)])
            rw [show numV (s.extract k m).data.toList = 0 by unfold numV; rw [if_neg (by rw [hnb]; decide)]]
            clear hnb HFN
            go_wp2_with fail
            refine bodyPost_ret (rct_row rfl _ _ g 25 #[.int .i64 0, .string ⟨#[]⟩, .int .i64 0, .int .i64 0] (0, 0) _ rfl ?_ Tryd.underlying25 rfl (by kernel_rfl)) rfl ?_
            · have hz := R5.out.at_
              simp [World.setCell, Array.getElem?_modify, hz, Array.setIfInBounds]
            · rw [HF.out]
              refine ⟨_, ?_, rfl, ?_⟩
              · first | rfl | assumption | exact HSL.out
              · have hgb := R5.out.eq
                have := R5.out.bel
                repeat' first | assumption | refine Below.setCell ?_ (by simp only; omega) _
    | false =>
      have HFF : Hid (firstT (s.data.toList.drop k) = signT (s.data.toList.drop k)) := Lib.hid (by unfold firstT; rw [HH1.out, hl, if_neg (by decide), HH2.out, hd, if_neg (by decide)])
      clear hl hd HH1 HH2 HNUM
      go_wp2_with fail
      refine (HSG.out w2).mono ?_
      rintro e w3 ⟨rfl, hb3⟩
      have R3 := Lib.hid (R2.out.go hb3); clear hb3 R2 HSG
      by_cases hn : sgL (s.data.toList.drop k) = 0
      · have HF : Hid (firstT (s.data.toList.drop k) = ⟨13, 0, [], 0⟩) := Lib.hid (by
          rw [HFF.out]
          unfold sgL at hn
          by_cases he : (signT (s.data.toList.drop k)).e = 0
          · have := (signT_ok he).2.2.2; omega
          · unfold signT at he ⊢
            split
            · rename_i h; rw [h] at he; exact absurd rfl he
            · rfl)
        rw [hn]
        have r1 := R3.out
        obtain ⟨c0, c1, c2, c3⟩ := r1.c
        have f0 := r1.f 0; have f1 := r1.f 1; have f2 := r1.f 2; have f3 := r1.f 3
        have gl := r1.lt
        clear r1 HFF hn
        go_wp2_with fail
        refine bodyPost_ret (rct_row rfl _ _ g 25 #[.int .i64 0, .string ⟨#[]⟩, .int .i64 0, .int .i64 0] (0, 0) _ rfl ?_ Tryd.underlying25 rfl (by kernel_rfl)) rfl ?_
        · have hz := R3.out.at_
          simp [World.setCell, Array.getElem?_modify, hz, Array.setIfInBounds]
        · rw [HF.out]
          refine ⟨_, ?_, rfl, ?_⟩
          · first | rfl | assumption | exact HSL.out
          · have hgb := R3.out.eq
            have := R3.out.bel
            repeat' first | assumption | refine Below.setCell ?_ (by simp only; omega) _
      · have he : (signT (s.data.toList.drop k)).e = 0 := by
          unfold sgL at hn
          unfold signT at hn ⊢
          split
          · rfl
          · rename_i h; rw [h] at hn; exact absurd rfl hn
        obtain ⟨h1, h2, ⟨q, hq⟩, h4⟩ := signT_ok he
        obtain ⟨m, hm⟩ : ∃ m, m = sgL (s.data.toList.drop k) := ⟨_, rfl⟩
        have hml : k + m ≤ s.size := by
          have := congrArg List.length hq
          rw [List.length_append, List.length_drop, HSZ.out] at this
          unfold sgL at hm; omega
        have HSL : Hid ((s.extract k (k + m)).data.toList = (signT (s.data.toList.drop k)).t) := Lib.hid (by
          rw [ext_at, show k + m - k = m by omega]
          conv => lhs; rw [← hq]
          rw [hm]; unfold sgL; exact List.take_left' rfl)
        have HF : Hid (firstT (s.data.toList.drop k) = ⟨0, 2, (signT (s.data.toList.drop k)).t, 0⟩) := Lib.hid (by
          rw [HFF.out]
          have : signT (s.data.toList.drop k) = ⟨(signT (s.data.toList.drop k)).e, (signT (s.data.toList.drop k)).k, (signT (s.data.toList.drop k)).t, (signT (s.data.toList.drop k)).n⟩ := rfl
          rw [this, he, h1, h2])
        have hm0 : ((m : Int) == 0) = false := by rw [beq_eq_false_iff_ne]; omega
        have s1 : (k : Int) ≤ (k : Int) + (m : Int) := by omega
        have s2 : (k : Int) + (m : Int) ≤ (s.size : Int) := by omega
        rw [← hm]
        have r1 := R3.out
        obtain ⟨c0, c1, c2, c3⟩ := r1.c
        have f0 := r1.f 0; have f1 := r1.f 1; have f2 := r1.f 2; have f3 := r1.f 3
        have gl := r1.lt
        clear r1 HFF hn he h1 h2 hq h4 hm q
        go_wp2_with fail
        refine bodyPost_ret (rct_row rfl _ _ g 25 #[.int .i64 2, .string (s.extract k (k + m)), .int .i64 0, .int .i64 k] (0, 0) _ rfl ?_ Tryd.underlying25 rfl (by kernel_rfl)) rfl ?_
        · have hz := R3.out.at_
          simp [World.setCell, Array.getElem?_modify, hz, Array.setIfInBounds]
        · rw [HF.out]
          refine ⟨_, ?_, rfl, ?_⟩
          · first | rfl | assumption | exact HSL.out
          · have hgb := R3.out.eq
            have := R3.out.bel
            repeat' first | assumption | refine Below.setCell ?_ (by simp only; omega) _
end Go.Proofs.YtfmocnbhahcgoaaDoor
