/-
  Contracts of wire.Reader's methods (5): the lists.
-/
import Derived.Test.YtdpedeknccnbhaaDoorF
set_option linter.unusedVariables false
namespace Go.Proofs.YtdpedeknccnbhaaDoor
open Go.RowKit Go.Sort

/-! ### the reading of many, round by round -/
def pre {α : Type} (xs : List α) : Option (List α × List UInt8) → Option (List α × List UInt8)
  | some (ys, l) => some (xs ++ ys, l)
  | none => none
theorem many_start {α : Type} (one : List UInt8 → Option (α × List UInt8)) (n : Nat) (t : List UInt8) : rdMany one n t = pre [] (rdMany one (n - 0) t) := by
  rw [Nat.sub_zero]
  cases rdMany one n t with
  | none => rfl
  | some x => simp [pre]
theorem many_none {α : Type} {one : List UInt8 → Option (α × List UInt8)} {n k : Nat} {t cur : List UInt8} {xs : List α} (h : rdMany one n t = pre xs (rdMany one (n - k) cur)) (hk : k < n) (ho : one cur = none) : rdMany one n t = none := by
  rw [h, show n - k = (n - k - 1) + 1 from by omega, rdMany, ho]; rfl
theorem many_some {α : Type} {one : List UInt8 → Option (α × List UInt8)} {n k : Nat} {t cur l1 : List UInt8} {xs : List α} {x : α} (h : rdMany one n t = pre xs (rdMany one (n - k) cur)) (hk : k < n) (ho : one cur = some (x, l1)) :
    rdMany one n t = pre (xs ++ [x]) (rdMany one (n - (k + 1)) l1) := by
  rw [h, show n - k = (n - (k + 1)) + 1 from by omega, rdMany, ho]
  simp only
  cases hm : rdMany one (n - (k + 1)) l1 with
  | none => rfl
  | some y => obtain ⟨ys, l2⟩ := y; simp [pre]
theorem many_end {α : Type} {one : List UInt8 → Option (α × List UInt8)} {n : Nat} {t cur : List UInt8} {xs : List α} (h : rdMany one n t = pre xs (rdMany one (n - n) cur)) : rdMany one n t = some (xs, cur) := by
  rw [h, Nat.sub_self, rdMany]; simp [pre]

theorem list_head {α : Type} {one : List UInt8 → Option (α × List UInt8)} {l : List UInt8} (h : rdM maxI 91 l = none) : rdList one l = none := by unfold rdList; rw [h]
theorem list_many {α : Type} {one : List UInt8 → Option (α × List UInt8)} {l t : List UInt8} {n : Nat} (h : rdM maxI 91 l = some (n, t)) (hm : rdMany one n t = none) : rdList one l = none := by
  unfold rdList; rw [h]; simp only [hm]
theorem list_open {α : Type} {one : List UInt8 → Option (α × List UInt8)} {l t cur : List UInt8} {n : Nat} {xs : List α} (h : rdM maxI 91 l = some (n, t)) (hm : rdMany one n t = some (xs, cur)) (hc : ∀ r, cur ≠ 93 :: r) : rdList one l = none := by
  unfold rdList; rw [h]; simp only [hm]
  split
  · rename_i ys r2 e
    simp only [Option.some.injEq, Prod.mk.injEq] at e
    exact absurd e.2 (hc r2)
  · rfl
theorem list_close {α : Type} {one : List UInt8 → Option (α × List UInt8)} {l t r2 : List UInt8} {n : Nat} {xs : List α} (h : rdM maxI 91 l = some (n, t)) (hm : rdMany one n t = some (xs, 93 :: r2)) : rdList one l = some (xs, r2) := by
  unfold rdList; rw [h]; simp only [hm]
theorem int_rest {l t : List UInt8} {v : Int} (h : rdInt l = some (v, t)) : t.length + 2 ≤ l.length := by
  obtain ⟨rfl, hin⟩ := (rdInt_iff l v t).1 h
  have := eInt_len v hin
  simp only [List.length_append]; omega
theorem text_rest {l t : List UInt8} {v : List UInt8} (hl : l.length ≤ maxI) (h : rdText l = some (v, t)) : t.length + v.length + 3 ≤ l.length := by
  obtain rfl := (rdText_iff l hl v t).1 h
  have := eText_len v (by unfold maxI at hl; simp only [List.length_append, eText, List.length_cons] at hl; omega)
  simp only [List.length_append]; omega

/-- the new slice of a call that began at w0 reads as xs. -/
def NRow (w0 w : World) (A : Option Addr) (xs : List Value) : Prop :=
  0 < xs.length → ∃ b, A = some ⟨b, 0, none⟩ ∧ w0.heap.size ≤ b ∧ b < w.heap.size ∧ ∀ j u, xs[j]? = some u → w.cell? ⟨b, j, none⟩ = some u
theorem NRow.row {w0 w : World} {A : Option Addr} {xs : List Value} (h : NRow w0 w A xs) : Row w A xs := fun hn => by
  obtain ⟨b, e, _, hlt, hc⟩ := h hn
  exact ⟨b, 0, e, hlt, fun j u hu => by rw [Nat.zero_add]; exact hc j u hu⟩
theorem NRow.of_own {w0 w : World} {e : TypeId} {v : Value} {n : Nat} {xs : List Value} (h : w.ownsRow w0.heap.size e 1 v n xs) : ∃ A cap, v = .slice A n cap ∧ xs.length = n ∧ NRow w0 w A xs := by
  obtain ⟨h1, h2⟩ := h
  have hn : xs.length = n := by omega
  rcases h2 with ⟨rfl, h0⟩ | ⟨g, cap, cur, rfl, hg, hh, hnc, hcm, hs, ht⟩
  · exact ⟨none, 0, by rw [h0], hn, fun h => by omega⟩
  · have hown : w.ownsRow w0.heap.size e 1 (.slice (some ⟨g, 0, none⟩) n cap) n xs := ⟨h1, .inr ⟨g, cap, cur, rfl, hg, hh, hnc, hcm, hs, ht⟩⟩
    refine ⟨_, cap, rfl, hn, fun _ => ⟨g, rfl, hg, ?_, fun j u hu => ?_⟩⟩
    · exact (Array.getElem?_eq_some_iff.1 hh).1
    · have := hown.cells (g := g) rfl j u hu
      have hadd : (⟨g, 0, none⟩ : Addr).add j = ⟨g, j, none⟩ := by unfold Addr.add; split <;> simp_all
      rw [hadd] at this
      exact this
theorem NRow.grown {w0 w w' : World} {A : Option Addr} {xs : List Value} {r : Nat} (h : NRow w0 w A xs) (hg : w.grownBy w' (some r)) (hr : r < w0.heap.size) : NRow w0 w' A xs := fun hn => by
  obtain ⟨b, e, hb, hlt, hc⟩ := h hn
  exact ⟨b, e, hb, Nat.lt_of_lt_of_le hlt hg.size, fun j u hu => (World.cell?_of_block (a := ⟨b, j, none⟩) (hg.block b hlt (fun e => by injection e with e; omega))).trans (hc j u hu)⟩

theorem own_kept {w w' : World} {base : Nat} {e : TypeId} {v : Value} {n r : Nat} {xs : List Value} (h : w.ownsRow base e 1 v n xs) (hg : w.grownBy w' (some r)) (hr : r < base) : w'.ownsRow base e 1 v n xs := by
  refine h.kept hg ?_
  cases hv : v.ownBlock with
  | none => exact .inl rfl
  | some k => exact .inr (fun e => by injection e with e; have := (h.lt k hv).1; omega)
theorem grown_alloc (w : World) (o : Obj) (row : Option Nat) : w.grownBy (w.alloc o) row := World.grownBy_alloc w o row
theorem grown_own {a w w' : World} {v : Value} {base r : Nat} {e : TypeId} {n : Nat} {xs : List Value} (h : a.grownBy w (some r)) (hown : w.ownsRow base e 1 v n xs) (hbase : a.heap.size ≤ base) (hg : w.grownBy w' v.ownBlock) : a.grownBy w' (some r) :=
  ⟨hg.os.trans h.os, hg.tape.trans h.tape, hg.output.trans h.output, Nat.le_trans h.size hg.size, fun i hi hr => (hg.block i (Nat.lt_of_lt_of_le hi h.size) (fun e => by have := (hown.lt i e.symm).1; omega)).trans (h.block i hi hr)⟩

theorem ret_slice {A : Option Addr} {n m c : Nat} (h : n = m) : Ending.returned (.slice A n c) = .returned (.slice A m c) := by rw [h]
/-- what a reading of a list comes to. -/
def LPost {α : Type} (T : TypeId) (r : Nat) (f : Bool) (val : α → Value) (x : Option (List α × List UInt8)) (w : World) (e : Ending) (w' : World) : Prop :=
  match x with
  | some (xs, l) => ∃ A cap, e = .returned (.slice A xs.length cap) ∧ NRow w w' A (xs.map val) ∧ (∃ s : ByteArray, s.data.toList = l ∧ RdrAt T r s f w') ∧ w.grownBy w' (some r)
  | none => After T r (.slice none 0 0) [] true w e w'

theorem infoInt : (Tryd.prog.info? 3).map (fun i => (i.zero, i.size, i.bytes)) = some (some (.int .i64 0), 1, 8) := by kernel_rfl
theorem infoStr : (Tryd.prog.info? 9).map (fun i => (i.zero, i.size, i.bytes)) = some (some (.string ⟨#[]⟩), 1, 16) := by kernel_rfl

set_option maxRecDepth 100000 in
set_option maxHeartbeats 4000000 in
theorem elemsInt_any (r : Nat) (s : ByteArray) (f : Bool) (hf : f = true → s.data.toList = []) (w : World) (hr : RdrAt 54 r s f w) (hsz : s.size ≤ 1099511627776) :
    Calls Tryd.prog 55 #[.pointer (some ⟨r, 0, none⟩), .func (.func 26) #[.pointer (some ⟨r, 0, none⟩)] #[]] w (LPost 54 r f (Value.int .i64) (rdList rdInt s.data.toList) w) := by
  obtain ⟨i0, hi0, hz0, hz1, hz2⟩ := info_parts infoInt
  have hd := digits_at r s f 91 91 rfl (by decide) maxI 9223372036854775807 rfl (by unfold maxI; omega) (by unfold maxI; omega) w hr hsz
  have hrlt := hr.lt
  cases hx : rdM maxI 91 s.data.toList with
  | none =>
    rw [hx] at hd
    have HN := Lib.hid (list_head (one := rdInt) hx)
    have HD := Lib.hid hd
    clear hx hd hr hf
    go_enter Tryd.func55, Tryd.ntmps55
    go_wp2_with fail
    refine HD.out.mono ?_
    rintro e w2 ⟨rfl, hA, hg⟩
    obtain ⟨s2, hs2, hr2⟩ := hA
    obtain rfl := empty_of hs2
    have c2 := hr2.cell0
    have HP := Lib.hid (prefix_no ⟨#[]⟩ 93 (fun t e => by cases e))
    have HR := Lib.hid hr2; clear hr2 hs2
    go_wp2
    go_loop [9] (fun i => i = .int .u64 0) (fun _ => 0)
    case atStart => rfl
    case round =>
      obtain rfl := hrel
      go_wp2_with fail
      refine (HP.out _).mono ?_
      rintro e w3 ⟨rfl, rfl⟩
      go_wp2_with fail
      refine (fail_any r _ _ _ HR.out).mono ?_
      rintro e w3 ⟨rfl, hA2, hg3⟩
      have HA := Lib.hid hA2; clear hA2
      go_wp2
      go_ret
      rw [HN.out]
      exact ⟨rfl, HA.out, grown_trans hg hg3⟩
  | some x =>
    obtain ⟨n, t⟩ := x
    rw [hx] at hd
    have hle := maxI_le (rdM_le hx)
    have htl := rd_rest_len (by decide) hx
    rw [size_list] at htl
    obtain rfl : f = false := by
      cases f with
      | false => rfl
      | true =>
        have h0 := hf rfl
        have := size_list s
        rw [h0] at this
        simp at this
        omega
    have HX := Lib.hid hx
    have HD := Lib.hid hd
    clear hx hd hr hf
    go_enter Tryd.func55, Tryd.ntmps55
    go_wp2_with fail
    refine HD.out.mono ?_
    rintro e w2 ⟨rfl, hA, hg⟩
    obtain ⟨s2, hs2, hr2⟩ := hA
    have HR := Lib.hid hr2
    have H2 := Lib.hid hs2
    have hz9 := size_of hs2
    have hsz2 : s2.size ≤ t.length := by omega
    clear hr2 hs2 hz9
    go_wp2
    go_loopw [5, 6, 9] (fun v _ i wr => ∃ (k : Nat) (xs : List Int) (u : ByteArray), k ≤ n ∧ i = .int .u64 k ∧ u.size + 2 * k ≤ t.length ∧ Hid (RdrAt 54 r u false wr) ∧ wr.ownsRow w.heap.size 3 1 v k (xs.map (Value.int .i64)) ∧ Hid (rdMany rdInt n t = pre xs (rdMany rdInt (n - k) u.data.toList)) ∧ w.grownBy wr (some r)) (fun _ _ i _ => n - (intOf i).toNat)
    case atStart => exact ⟨0, [], s2, Nat.zero_le _, rfl, by omega, HR, World.ownsRow_nil _ _ _ _, Lib.hid (by rw [H2.out]; exact many_start rdInt n t), hg⟩
    case round =>
      obtain ⟨k, xs, u, hk, rfl, hus, hru, hown, hm, bg⟩ := hrel
      have hsu : u.size ≤ 1099511627776 := by omega
      clear hg HR
      by_cases hlt : k < n
      · have hone := intR_any r u false _ hru.out hsu
        cases ho : rdInt u.data.toList with
        | none =>
          rw [ho] at hone
          have HO := Lib.hid hone
          have HN := Lib.hid (list_many HX.out (many_none hm.out hlt ho))
          clear hone ho
          go_wp2_with fail
          refine HO.out.mono ?_
          rintro e w5 ⟨rfl, hA5, hg5⟩
          obtain ⟨s5, hs5, hr5⟩ := hA5
          have c5 := hr5.cell1
          have HR5 := Lib.hid hr5
          have H5 := Lib.hid hs5
          clear hr5 hs5
          go_wp2
          go_ret
          rw [HN.out]
          exact ⟨rfl, ⟨_, H5.out, HR5.out⟩, grown_trans bg hg5⟩
        | some y =>
          obtain ⟨x, l1⟩ := y
          rw [ho] at hone
          have HO := Lib.hid hone
          have HM := Lib.hid (many_some hm.out hlt ho)
          have hrest := int_rest ho
          rw [size_list] at hrest
          clear hone ho
          go_wp2_with fail
          refine HO.out.mono ?_
          rintro e w5 ⟨rfl, hA5, hg5⟩
          obtain ⟨s5, hs5, hr5⟩ := hA5
          have c5 := hr5.cell1
          have hz5 := size_of hs5
          have hz6 : s5.size + 2 * (k + 1) ≤ t.length := by omega
          have hown5 := own_kept hown hg5 hrlt
          have bg5 := grown_trans bg hg5
          have HR5 := Lib.hid hr5
          have H5 := Lib.hid hs5
          clear hr5 hs5 hz5 hown hg5
          go_wp2_with (at_builtin; refine wpList_append_own _ rfl _ _ 22 rfl w.heap.size 3 i0 (.int .i64 0) 1 8 Tryd.underlying22 hi0 hz0 hz1 hz2 rfl (by decide) _ _ _ rfl (hown5.alloc _) ⟨w5.heap.size, 0, none⟩ 1 1 [Value.int .i64 x] rfl rfl ?c1 ?c2 ?c3 ?c4 ?c5 ?_)
          case c1 => exact cell_one_new _ _ _
          case c2 => intro u hu; simp at hu; subst hu; rfl
          case c3 => unfold maxLen; omega
          case c4 => omega
          case c5 => have := bg5.size; simp; omega
          intro v' w6 hown' hgrow _
          have bg6 := grown_own (grown_trans bg5 (grown_alloc w5 (.cells #[Value.int .i64 x] 3) (some r))) (hown5.alloc _) (Nat.le_refl _) hgrow
          have HR6 : Hid (RdrAt 54 r s5 false w6) := by
            refine Lib.hid ((HR5.out.kept (grown_alloc w5 (.cells #[Value.int .i64 x] 3) none) (by simp)).kept hgrow (fun e => ?_))
            have := ((hown5.alloc (.cells #[Value.int .i64 x] 3)).lt r e.symm).1
            omega
          have hown6 : w6.ownsRow w.heap.size 3 1 v' (k + 1) ((xs ++ [x]).map (Value.int .i64)) := by simpa using hown'
          clear hown' hgrow c5 HR5
          go_wp2
          go_roundw
          case rel => exact ⟨k + 1, xs ++ [x], s5, by omega, by go_num, hz6, HR6, hown6, Lib.hid (by rw [H5.out]; exact HM.out), bg6⟩
          case measure => simp [intOf]; omega
      · obtain rfl : k = n := by omega
        have HM := Lib.hid (many_end hm.out)
        have c0 := hru.out.cell0
        have f0 := hru.out.froz 0
        obtain ⟨A, cap, rfl, hln, hrow⟩ := NRow.of_own hown
        have HL := Lib.hid hln; clear hln
        have HRW := Lib.hid hrow; clear hrow
        by_cases h93 : ∃ q, u.data.toList = 93 :: q
        · obtain ⟨q, hq⟩ := h93
          have HP := Lib.hid (prefix_yes u 93 q hq)
          have h1 : 1 ≤ u.size := by rw [← size_list, hq]; simp
          have hm2 := HM.out
          rw [hq] at hm2
          have HN := Lib.hid (list_close HX.out hm2)
          have HQ := Lib.hid hq
          clear hm2 hq
          go_wp2_with fail
          refine (HP.out _).mono ?_
          rintro e w3 ⟨rfl, rfl⟩
          go_wp2
          go_ret
          rw [HN.out]
          exact ⟨A, cap, ret_slice (by rw [← HL.out]; simp), HRW.out.grown (grown_set _ r 0 _) hrlt, ⟨_, by rw [ext_drop, HQ.out]; rfl, hru.out.set0 _⟩, grown_trans bg (grown_set _ _ _ _)⟩
        · have HP := Lib.hid (prefix_no u 93 (fun q e => h93 ⟨q, e⟩))
          have HN := Lib.hid (list_open HX.out HM.out (fun q e => h93 ⟨q, e⟩))
          clear h93
          go_wp2_with fail
          refine (HP.out _).mono ?_
          rintro e w3 ⟨rfl, rfl⟩
          go_wp2_with fail
          refine (fail_any r _ _ _ hru.out).mono ?_
          rintro e w3 ⟨rfl, hA2, hg3⟩
          have HA := Lib.hid hA2; clear hA2
          go_wp2
          go_ret
          rw [HN.out]
          exact ⟨rfl, HA.out, grown_trans bg hg3⟩

set_option maxHeartbeats 1000000 in
theorem numsR_any (r : Nat) (s : ByteArray) (f : Bool) (hf : f = true → s.data.toList = []) (w : World) (hr : RdrAt 54 r s f w) (hsz : s.size ≤ 1099511627776) :
    Calls Tryd.prog 31 #[.pointer (some ⟨r, 0, none⟩)] w (LPost 54 r f (Value.int .i64) (rdList rdInt s.data.toList) w) := by
  have hE := elemsInt_any r s f hf w hr hsz
  cases hx : rdList rdInt s.data.toList with
  | none =>
    rw [hx] at hE
    have HE := Lib.hid hE
    clear hE hf hr hx
    go_enter Tryd.func31, Tryd.ntmps31
    go_wp2_with fail
    refine HE.out.mono ?_
    rintro e w2 ⟨rfl, hA, hg⟩
    have HA := Lib.hid hA; clear hA
    go_wp2
    go_ret
    exact ⟨rfl, HA.out, hg⟩
  | some x =>
    obtain ⟨xs, l⟩ := x
    rw [hx] at hE
    have HE := Lib.hid hE
    clear hE hf hr hx
    go_enter Tryd.func31, Tryd.ntmps31
    go_wp2_with fail
    refine HE.out.mono ?_
    rintro e w2 ⟨A, cap, rfl, hrow, hA, hg⟩
    have HA := Lib.hid hA; clear hA
    have HRW := Lib.hid hrow; clear hrow
    go_wp2
    go_ret
    exact ⟨A, cap, rfl, HRW.out, HA.out, hg⟩

set_option maxRecDepth 100000 in
set_option maxHeartbeats 4000000 in
theorem elemsStr_any (r : Nat) (s : ByteArray) (f : Bool) (hf : f = true → s.data.toList = []) (w : World) (hr : RdrAt 54 r s f w) (hsz : s.size ≤ 1099511627776) :
    Calls Tryd.prog 56 #[.pointer (some ⟨r, 0, none⟩), .func (.func 28) #[.pointer (some ⟨r, 0, none⟩)] #[]] w (LPost 54 r f vStr (rdList rdText s.data.toList) w) := by
  obtain ⟨i0, hi0, hz0, hz1, hz2⟩ := info_parts infoStr
  have hd := digits_at r s f 91 91 rfl (by decide) maxI 9223372036854775807 rfl (by unfold maxI; omega) (by unfold maxI; omega) w hr hsz
  have hrlt := hr.lt
  cases hx : rdM maxI 91 s.data.toList with
  | none =>
    rw [hx] at hd
    have HN := Lib.hid (list_head (one := rdText) hx)
    have HD := Lib.hid hd
    clear hx hd hr hf
    go_enter Tryd.func56, Tryd.ntmps56
    go_wp2_with fail
    refine HD.out.mono ?_
    rintro e w2 ⟨rfl, hA, hg⟩
    obtain ⟨s2, hs2, hr2⟩ := hA
    obtain rfl := empty_of hs2
    have c2 := hr2.cell0
    have HP := Lib.hid (prefix_no ⟨#[]⟩ 93 (fun t e => by cases e))
    have HR := Lib.hid hr2; clear hr2 hs2
    go_wp2
    go_loop [9] (fun i => i = .int .u64 0) (fun _ => 0)
    case atStart => rfl
    case round =>
      obtain rfl := hrel
      go_wp2_with fail
      refine (HP.out _).mono ?_
      rintro e w3 ⟨rfl, rfl⟩
      go_wp2_with fail
      refine (fail_any r _ _ _ HR.out).mono ?_
      rintro e w3 ⟨rfl, hA2, hg3⟩
      have HA := Lib.hid hA2; clear hA2
      go_wp2
      go_ret
      rw [HN.out]
      exact ⟨rfl, HA.out, grown_trans hg hg3⟩
  | some x =>
    obtain ⟨n, t⟩ := x
    rw [hx] at hd
    have hle := maxI_le (rdM_le hx)
    have htl := rd_rest_len (by decide) hx
    rw [size_list] at htl
    obtain rfl : f = false := by
      cases f with
      | false => rfl
      | true =>
        have h0 := hf rfl
        have := size_list s
        rw [h0] at this
        simp at this
        omega
    have HX := Lib.hid hx
    have HD := Lib.hid hd
    clear hx hd hr hf
    go_enter Tryd.func56, Tryd.ntmps56
    go_wp2_with fail
    refine HD.out.mono ?_
    rintro e w2 ⟨rfl, hA, hg⟩
    obtain ⟨s2, hs2, hr2⟩ := hA
    have HR := Lib.hid hr2
    have H2 := Lib.hid hs2
    have hz9 := size_of hs2
    have hsz2 : s2.size ≤ t.length := by omega
    clear hr2 hs2 hz9
    go_wp2
    go_loopw [5, 6, 9] (fun v _ i wr => ∃ (k : Nat) (xs : List (List UInt8)) (u : ByteArray), k ≤ n ∧ i = .int .u64 k ∧ u.size + 2 * k ≤ t.length ∧ Hid (RdrAt 54 r u false wr) ∧ wr.ownsRow w.heap.size 9 1 v k (xs.map vStr) ∧ Hid (rdMany rdText n t = pre xs (rdMany rdText (n - k) u.data.toList)) ∧ w.grownBy wr (some r)) (fun _ _ i _ => n - (intOf i).toNat)
    case atStart => exact ⟨0, [], s2, Nat.zero_le _, rfl, by omega, HR, World.ownsRow_nil _ _ _ _, Lib.hid (by rw [H2.out]; exact many_start rdText n t), hg⟩
    case round =>
      obtain ⟨k, xs, u, hk, rfl, hus, hru, hown, hm, bg⟩ := hrel
      have hsu : u.size ≤ 1099511627776 := by omega
      clear hg HR
      by_cases hlt : k < n
      · have hone := textR_any r u false _ hru.out hsu
        cases ho : rdText u.data.toList with
        | none =>
          rw [ho] at hone
          have HO := Lib.hid hone
          have HN := Lib.hid (list_many HX.out (many_none hm.out hlt ho))
          clear hone ho
          go_wp2_with fail
          refine HO.out.mono ?_
          rintro e w5 ⟨rfl, hA5, hg5⟩
          obtain ⟨s5, hs5, hr5⟩ := hA5
          have c5 := hr5.cell1
          have HR5 := Lib.hid hr5
          have H5 := Lib.hid hs5
          clear hr5 hs5
          go_wp2
          go_ret
          rw [HN.out]
          exact ⟨rfl, ⟨_, H5.out, HR5.out⟩, grown_trans bg hg5⟩
        | some y =>
          obtain ⟨x, l1⟩ := y
          rw [ho] at hone
          have HO := Lib.hid hone
          have HM := Lib.hid (many_some hm.out hlt ho)
          have hrest := text_rest (by rw [size_list]; unfold maxI; omega) ho
          rw [size_list] at hrest
          clear hone ho
          go_wp2_with fail
          refine HO.out.mono ?_
          rintro e w5 ⟨rfl, hA5, hg5⟩
          obtain ⟨s5, hs5, hr5⟩ := hA5
          have c5 := hr5.cell1
          have hz5 := size_of hs5
          have hz6 : s5.size + 2 * (k + 1) ≤ t.length := by omega
          have hown5 := own_kept hown hg5 hrlt
          have bg5 := grown_trans bg hg5
          have HR5 := Lib.hid hr5
          have H5 := Lib.hid hs5
          clear hr5 hs5 hz5 hown hg5
          rw [show vStr x = Value.string (bs x) from rfl]
          go_wp2_with (at_builtin; refine wpList_append_own _ rfl _ _ 23 rfl w.heap.size 9 i0 (.string ⟨#[]⟩) 1 16 Tryd.underlying23 hi0 hz0 hz1 hz2 rfl (by decide) _ _ _ rfl (hown5.alloc _) ⟨w5.heap.size, 0, none⟩ 1 1 [Value.string (bs x)] rfl rfl ?c1 ?c2 ?c3 ?c4 ?c5 ?_)
          case c1 => exact cell_one_new _ _ _
          case c2 => intro u hu; simp at hu; subst hu; rfl
          case c3 => unfold maxLen; omega
          case c4 => omega
          case c5 => have := bg5.size; simp; omega
          intro v' w6 hown' hgrow _
          have bg6 := grown_own (grown_trans bg5 (grown_alloc w5 (.cells #[Value.string (bs x)] 9) (some r))) (hown5.alloc _) (Nat.le_refl _) hgrow
          have HR6 : Hid (RdrAt 54 r s5 false w6) := by
            refine Lib.hid ((HR5.out.kept (grown_alloc w5 (.cells #[Value.string (bs x)] 9) none) (by simp)).kept hgrow (fun e => ?_))
            have := ((hown5.alloc (.cells #[Value.string (bs x)] 9)).lt r e.symm).1
            omega
          have hown6 : w6.ownsRow w.heap.size 9 1 v' (k + 1) ((xs ++ [x]).map vStr) := by simpa [vStr] using hown'
          clear hown' hgrow c5 HR5
          go_wp2
          go_roundw
          case rel => exact ⟨k + 1, xs ++ [x], s5, by omega, by go_num, hz6, HR6, hown6, Lib.hid (by rw [H5.out]; exact HM.out), bg6⟩
          case measure => simp [intOf]; omega
      · obtain rfl : k = n := by omega
        have HM := Lib.hid (many_end hm.out)
        have c0 := hru.out.cell0
        have f0 := hru.out.froz 0
        obtain ⟨A, cap, rfl, hln, hrow⟩ := NRow.of_own hown
        have HL := Lib.hid hln; clear hln
        have HRW := Lib.hid hrow; clear hrow
        by_cases h93 : ∃ q, u.data.toList = 93 :: q
        · obtain ⟨q, hq⟩ := h93
          have HP := Lib.hid (prefix_yes u 93 q hq)
          have h1 : 1 ≤ u.size := by rw [← size_list, hq]; simp
          have hm2 := HM.out
          rw [hq] at hm2
          have HN := Lib.hid (list_close HX.out hm2)
          have HQ := Lib.hid hq
          clear hm2 hq
          go_wp2_with fail
          refine (HP.out _).mono ?_
          rintro e w3 ⟨rfl, rfl⟩
          go_wp2
          go_ret
          rw [HN.out]
          exact ⟨A, cap, ret_slice (by rw [← HL.out]; simp), HRW.out.grown (grown_set _ r 0 _) hrlt, ⟨_, by rw [ext_drop, HQ.out]; rfl, hru.out.set0 _⟩, grown_trans bg (grown_set _ _ _ _)⟩
        · have HP := Lib.hid (prefix_no u 93 (fun q e => h93 ⟨q, e⟩))
          have HN := Lib.hid (list_open HX.out HM.out (fun q e => h93 ⟨q, e⟩))
          clear h93
          go_wp2_with fail
          refine (HP.out _).mono ?_
          rintro e w3 ⟨rfl, rfl⟩
          go_wp2_with fail
          refine (fail_any r _ _ _ hru.out).mono ?_
          rintro e w3 ⟨rfl, hA2, hg3⟩
          have HA := Lib.hid hA2; clear hA2
          go_wp2
          go_ret
          rw [HN.out]
          exact ⟨rfl, HA.out, grown_trans bg hg3⟩

set_option maxHeartbeats 1000000 in
theorem textsR_any (r : Nat) (s : ByteArray) (f : Bool) (hf : f = true → s.data.toList = []) (w : World) (hr : RdrAt 54 r s f w) (hsz : s.size ≤ 1099511627776) :
    Calls Tryd.prog 34 #[.pointer (some ⟨r, 0, none⟩)] w (LPost 54 r f vStr (rdList rdText s.data.toList) w) := by
  have hE := elemsStr_any r s f hf w hr hsz
  cases hx : rdList rdText s.data.toList with
  | none =>
    rw [hx] at hE
    have HE := Lib.hid hE
    clear hE hf hr hx
    go_enter Tryd.func34, Tryd.ntmps34
    go_wp2_with fail
    refine HE.out.mono ?_
    rintro e w2 ⟨rfl, hA, hg⟩
    have HA := Lib.hid hA; clear hA
    go_wp2
    go_ret
    exact ⟨rfl, HA.out, hg⟩
  | some x =>
    obtain ⟨xs, l⟩ := x
    rw [hx] at hE
    have HE := Lib.hid hE
    clear hE hf hr hx
    go_enter Tryd.func34, Tryd.ntmps34
    go_wp2_with fail
    refine HE.out.mono ?_
    rintro e w2 ⟨A, cap, rfl, hrow, hA, hg⟩
    have HA := Lib.hid hA; clear hA
    have HRW := Lib.hid hrow; clear hrow
    go_wp2
    go_ret
    exact ⟨A, cap, rfl, HRW.out, HA.out, hg⟩

end Go.Proofs.YtdpedeknccnbhaaDoor
