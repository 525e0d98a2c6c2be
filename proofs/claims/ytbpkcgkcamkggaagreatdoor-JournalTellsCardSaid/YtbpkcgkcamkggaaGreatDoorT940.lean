/-
  Contracts of the reference's reader (1): its small methods, Back, ahead, number.
-/
import Derived.Test.YtbpkcgkcamkggaaGreatDoorT932
import Derived.IntWalk
set_option linter.unusedVariables false
namespace Go.Proofs.YtbpkcgkcamkggaaGreatDoor.W
open Go.RowKit Go.Sort

/-! ### plain: what Back reckons -/
/-- where the digits begin. -/
def fromOf (l : List UInt8) : Nat := if l.head? = some 45 then 1 else 0
/-- Back's sum, in Go's wrapping arithmetic. -/
def bacc (l : List UInt8) : Int := l.foldl (fun n c => wrap64 (wrap64 (10 * n) - ((c.toNat : Int) - 48))) 0
theorem bacc_snoc (l : List UInt8) (c : UInt8) : bacc (l ++ [c]) = wrap64 (wrap64 (10 * bacc l) - ((c.toNat : Int) - 48)) := by
  simp [bacc, List.foldl_append]
theorem wrap_in (n : Int) : In64 (wrap64 n) := by unfold In64 wrap64; omega
theorem wrap_id {n : Int} (h : In64 n) : wrap64 n = n := by unfold In64 at h; unfold wrap64; omega
theorem bacc_in (l : List UInt8) : In64 (bacc l) := by
  rcases List.eq_nil_or_concat l with rfl | ⟨i, c, rfl⟩
  · simp [bacc, In64]
  · rw [List.concat_eq_append, bacc_snoc]; exact wrap_in _
theorem bacc_eq : ∀ (n : Nat) (l : List UInt8), l.length = n → (∀ c ∈ l, isD c = true) → dval l ≤ 9223372036854775808 → bacc l = -(dval l : Int) := by
  intro n
  induction n with
  | zero => intro l hl _ _; rw [List.eq_nil_of_length_eq_zero hl]; rfl
  | succ n ih =>
    intro l hl hd hv
    obtain ⟨i, c, rfl⟩ : ∃ i c, l = i ++ [c] := ⟨l.dropLast, l.getLast (by intro e; rw [e] at hl; simp at hl), (List.dropLast_concat_getLast _).symm⟩
    have hc := (isD_iff c).1 (hd c (by simp))
    rw [dval_snoc] at hv
    have h1 := ih i (by simp at hl; omega) (fun x hx => hd x (by simp [hx])) (by omega)
    rw [bacc_snoc, h1, dval_snoc]
    rw [wrap_id (n := 10 * -(dval i : Int)) (by unfold In64; omega), wrap_id (by unfold In64; omega)]
    omega

theorem itoa_from {u : Int} (h : In64 u) : fromOf (Lib.itoa u) = (if u < 0 then 1 else 0) ∧ (Lib.itoa u).drop (fromOf (Lib.itoa u)) = Lib.decDigits u.natAbs := by
  unfold fromOf Lib.itoa
  by_cases hu : u < 0
  · rw [if_pos hu]; simp [hu]
  · rw [if_neg hu]
    have e : u.toNat = u.natAbs := by omega
    obtain ⟨c, t, ec, hc⟩ := dec_head_isD u.toNat
    have h45 : c ≠ 45 := by intro e; subst e; revert hc; decide
    rw [if_neg (by rw [ec]; simpa using h45)]
    simp [hu, e]
theorem back_value {l : List UInt8} {u : Int} (h : In64 u) (hl : l = Lib.itoa u) : (if fromOf l = 0 then wrap64 (-(bacc (l.drop (fromOf l)))) else bacc (l.drop (fromOf l))) = u := by
  subst hl
  obtain ⟨h1, h2⟩ := itoa_from h
  have hle : u.natAbs ≤ 9223372036854775808 := by unfold In64 at h; omega
  have h3 := bacc_eq _ (Lib.decDigits u.natAbs) rfl (dec_isD _) (by rw [dval_dec]; exact hle)
  rw [dval_dec] at h3
  rw [h2, h3, h1]
  by_cases hu : u < 0
  · rw [if_pos hu, if_neg (by omega)]; omega
  · rw [if_neg hu, if_pos rfl, wrap_id (by unfold In64 at h ⊢; omega)]; omega
theorem back_early {l : List UInt8} {i : Nat} (hi : i < l.length) (hf : fromOf l ≤ i) (hbad : isD l[i] = false ∨ 20 < i) {u : Int} (h : In64 u) : l ≠ Lib.itoa u := by
  rintro rfl
  have hlen := itoa_len u h
  rcases hbad with hb | hb
  · obtain ⟨h1, h2⟩ := itoa_from h
    have h3 : (Lib.itoa u)[i] ∈ (Lib.itoa u).drop (fromOf (Lib.itoa u)) := by
      rw [List.mem_iff_getElem]
      exact ⟨i - fromOf (Lib.itoa u), by rw [List.length_drop]; omega, by rw [List.getElem_drop]; congr 1; omega⟩
    rw [h2] at h3
    rw [dec_isD _ _ h3] at hb
    cases hb
  · omega

/-! ### plain: what ahead finds -/
theorem itoa_chars {u : Int} (h : In64 u) {e : UInt8} (he : isD e = false) (h45 : e ≠ 45) : ∀ c ∈ Lib.itoa u, c ≠ e := by
  intro c hc
  unfold Lib.itoa at hc
  have hd : ∀ n, ∀ c ∈ Lib.decDigits n, c ≠ e := fun n c hc e2 => by have := dec_isD n c hc; rw [e2, he] at this; cases this
  split at hc
  · rcases List.mem_cons.1 hc with rfl | hc
    · exact h45.symm
    · exact hd _ c hc
  · exact hd _ c hc
theorem ahead_at {l : List UInt8} {e : UInt8} (he : isD e = false) (h45 : e ≠ 45) {k : Nat} (hk : k < l.length) (hn : ∀ c ∈ l.take k, c ≠ e) (hc : l[k] = e) {v : Int} {r : List UInt8} :
    rdI e l = some (v, r) ↔ l.take k = Lib.itoa v ∧ In64 v ∧ r = l.drop (k + 1) := by
  rw [rdI_iff e he]
  constructor
  · rintro ⟨h, hin⟩
    have hch := itoa_chars hin he h45
    have hkl : k = (Lib.itoa v).length := by
      rcases Nat.lt_trichotomy k (Lib.itoa v).length with h1 | h1 | h1
      · exfalso
        have h2 : l[k] = (Lib.itoa v)[k] := by
          have : l[k]? = (Lib.itoa v)[k]? := by rw [h, List.getElem?_append_left h1]
          rw [List.getElem?_eq_getElem hk, List.getElem?_eq_getElem h1] at this
          exact Option.some.inj this
        exact hch _ (List.getElem_mem h1) (h2 ▸ hc)
      · exact h1
      · exfalso
        have h2 : l[(Lib.itoa v).length]? = some e := by rw [h, List.getElem?_append_right (Nat.le_refl _)]; simp
        have h3 : (l.take k)[(Lib.itoa v).length]? = some e := by rw [List.getElem?_take, if_pos h1]; exact h2
        exact hn e (List.mem_of_getElem? h3) rfl
    refine ⟨?_, hin, ?_⟩
    · rw [h, hkl, List.take_left']; rfl
    · rw [h, hkl, List.drop_append]; simp
  · rintro ⟨h1, hin, rfl⟩
    refine ⟨?_, hin⟩
    rw [← h1, ← hc]
    conv => lhs; rw [← List.take_append_drop k l, List.drop_eq_getElem_cons hk]
theorem ahead_none {l : List UInt8} {e : UInt8} (he : isD e = false) (h45 : e ≠ 45) {k : Nat} (hn : ∀ c ∈ l.take k, c ≠ e) (hk : k = l.length ∨ 21 ≤ k) : rdI e l = none := by
  cases h : rdI e l with
  | none => rfl
  | some x =>
    exfalso
    obtain ⟨v, r⟩ := x
    obtain ⟨h1, hin⟩ := (rdI_iff e he l v r).1 h
    have hlen := itoa_len v hin
    have h2 : l[(Lib.itoa v).length]? = some e := by rw [h1, List.getElem?_append_right (Nat.le_refl _)]; simp
    have h4 : (Lib.itoa v).length < l.length := (List.getElem?_eq_some_iff.1 h2).1
    have h3 : (l.take k)[(Lib.itoa v).length]? = some e := by rw [List.getElem?_take, if_pos (by omega)]; exact h2
    exact hn e (List.mem_of_getElem? h3) rfl

/-- a number, and the byte e behind it. -/
def rdNE (e : UInt8) (l : List UInt8) : Option (Int × List UInt8) := match rdM maxI e l with | some (n, r) => some ((n : Int), r) | none => none
theorem rdNE_none {e : UInt8} {l : List UInt8} (he : isD e = false) (h : rdI e l = none) : rdNE e l = none := by
  unfold rdNE
  cases hm : rdM maxI e l with
  | none => rfl
  | some x =>
    obtain ⟨n, r⟩ := x
    exfalso
    obtain ⟨h1, h2⟩ := (rdM_iff maxI e he l n r).1 hm
    have : rdI e l = some ((n : Int), r) := (rdI_iff e he l n r).2 ⟨by rw [h1]; unfold Lib.itoa; rw [if_neg (by omega)]; simp, by unfold In64; unfold maxI at h2; omega⟩
    rw [h] at this; cases this
theorem rdNE_neg {e : UInt8} {l r : List UInt8} {v : Int} (he : isD e = false) (h : rdI e l = some (v, r)) (hv : v < 0) : rdNE e l = none := by
  unfold rdNE
  cases hm : rdM maxI e l with
  | none => rfl
  | some x =>
    obtain ⟨n, r'⟩ := x
    exfalso
    obtain ⟨h1, h2⟩ := (rdM_iff maxI e he l n r').1 hm
    have : rdI e l = some ((n : Int), r') := (rdI_iff e he l n r').2 ⟨by rw [h1]; unfold Lib.itoa; rw [if_neg (by omega)]; simp, by unfold In64; unfold maxI at h2; omega⟩
    rw [h] at this
    simp only [Option.some.injEq, Prod.mk.injEq] at this
    omega
theorem rdNE_pos {e : UInt8} {l r : List UInt8} {v : Int} (he : isD e = false) (h : rdI e l = some (v, r)) (hv : ¬ v < 0) : rdNE e l = some (v, r) := by
  obtain ⟨h1, h2⟩ := (rdI_iff e he l v r).1 h
  unfold Lib.itoa at h1
  rw [if_neg hv] at h1
  have := (rdM_iff maxI e he l v.toNat r).2 ⟨h1, by unfold In64 at h2; unfold maxI; omega⟩
  unfold rdNE
  rw [this]
  simp only [Option.some.injEq, Prod.mk.injEq, and_true]
  omega

/-! ### the small methods -/
set_option maxHeartbeats 400000 in
theorem rfail_any (r : Nat) (s : ByteArray) (f : Bool) (w : World) (hr : RdrAt 99 r s f w) :
    Calls Tryz.prog 81 #[.pointer (some ⟨r, 0, none⟩)] w (After 99 r (.int .i64 0) [] true w) := by
  have c0 := hr.cell0
  have c1 := hr.cell1
  have f0 := hr.froz 0
  have f1 := hr.froz 1
  have H := Lib.hid hr; clear hr
  go_enter Tryz.func81, Tryz.ntmps81
  go_wp2
  go_ret
  exact ⟨rfl, ⟨_, rfl, (H.out.set0 _).set1 _⟩, grown_trans (grown_set _ _ _ _) (grown_set _ _ _ _)⟩

set_option maxHeartbeats 400000 in
theorem ropen_any (s : ByteArray) (w : World) :
    Calls Tryz.prog 60 #[.string s] w fun e w' => e = .returned (.pointer (some ⟨w.heap.size, 0, none⟩)) ∧ w' = w.alloc (.cells #[.string s, .bool false] 99) := by
  go_enter Tryz.func60, Tryz.ntmps60
  go_wp2
  go_ret
  exact ⟨rfl, rfl⟩

set_option maxHeartbeats 400000 in
theorem rleft_any (r : Nat) (s : ByteArray) (f : Bool) (w : World) (hr : RdrAt 99 r s f w) :
    Calls Tryz.prog 61 #[.pointer (some ⟨r, 0, none⟩)] w fun e w' => e = .returned (.int .i64 s.size) ∧ w = w' := by
  have c0 := hr.cell0
  have H := Lib.hid hr; clear hr
  go_enter Tryz.func61, Tryz.ntmps61
  go_wp2
  go_ret
  exact ⟨rfl, rfl⟩

/-- what close comes to. -/
def ClosePost (r : Nat) (f : Bool) (e : UInt8) (l : List UInt8) (w : World) (x : Ending) (w' : World) : Prop :=
  match l with
  | [] => After 99 r (.bool false) [] true w x w'
  | c :: t => if c = e then After 99 r (.bool true) t f w x w' else After 99 r (.bool false) [] true w x w'

set_option maxHeartbeats 1000000 in
theorem rclose_any (r : Nat) (s : ByteArray) (f : Bool) (e : UInt8) (c : Int) (hc : c = (e.toNat : Int)) (w : World) (hr : RdrAt 99 r s f w) (hsz : s.size ≤ 1099511627776) :
    Calls Tryz.prog 82 #[.pointer (some ⟨r, 0, none⟩), .int .u8 c] w (ClosePost r f e s.data.toList w) := by
  have c0 := hr.cell0
  have f0 := hr.froz 0
  have H := Lib.hid hr; clear hr
  cases hl : s.data.toList with
  | nil =>
    obtain rfl := empty_of hl
    clear hl hc
    go_enter Tryz.func82, Tryz.ntmps82
    go_wp2_with (go_at_call 81; refine (rfail_any r _ f _ H.out).mono ?_; rintro e2 w2 ⟨rfl, hA, hg⟩; have HA := Lib.hid hA; clear hA)
    go_ret
    exact ⟨rfl, HA.out, hg⟩
  | cons a t =>
    have hz := size_list s
    rw [hl, List.length_cons] at hz
    have hlt : 0 < s.size := by omega
    have h0 : s[0] = a := by
      have : s.data.toList[0]? = some a := by rw [hl]; rfl
      rw [List.getElem?_eq_getElem (by rw [size_list]; exact hlt)] at this
      exact Option.some.inj this
    have hzz : ((s.size : Int) == 0) = false := beq_eq_false_iff_ne.2 (by omega)
    have hlt' : (0 : Int) < (s.size : Int) := by omega
    have HL := Lib.hid hl
    by_cases hae : a = e
    · have hne : ((s[0].toNat : Int) != c) = false := by rw [h0, hae, hc]; simp
      clear hl hz h0 hc
      go_enter Tryz.func82, Tryz.ntmps82
      go_wp2
      go_ret
      show (if a = e then _ else _)
      rw [if_pos hae]
      exact ⟨rfl, ⟨_, by rw [ext_drop, HL.out]; rfl, H.out.set0 _⟩, grown_set _ _ _ _⟩
    · have hne : ((s[0].toNat : Int) != c) = true := by rw [bne_iff_ne, h0, hc]; intro h; exact hae (UInt8.toNat_inj.1 (by omega))
      clear hl hz h0 hc
      go_enter Tryz.func82, Tryz.ntmps82
      go_wp2_with (go_at_call 81; refine (rfail_any r _ f _ H.out).mono ?_; rintro e2 w2 ⟨rfl, hA, hg⟩; have HA := Lib.hid hA; clear hA)
      go_ret
      show (if a = e then _ else _)
      rw [if_neg hae]
      exact ⟨rfl, HA.out, hg⟩

end Go.Proofs.YtbpkcgkcamkggaaGreatDoor.W
