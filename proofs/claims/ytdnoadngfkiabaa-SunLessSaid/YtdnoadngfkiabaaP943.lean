/-
  Layer 12: what Of gives, with the number of slabs as a variable.
  SunLess: the walk of the law.
-/
import Derived.Test.YtdnoadngfkiabaaP942
import Derived.Test.YtdnoadngfkiabaaP922
import Derived.Laws.AppendOwnNone
set_option linter.unusedVariables false
set_option maxRecDepth 100000
namespace Go.Proofs.Ytdnoadngfkiabaa
open Go.RowKit

def OfN12 (n : Nat) (S : List Sl) (er : Int) (w : World) (e : Ending) (w' : World) : Prop := ∃ A c, e = .returned (.tuple #[.slice A n c, .int .i64 er]) ∧ SIn w' A c S ∧ Below w.heap.size w w'
theorem of_n12 {A : Option Addr} {cap n : Nat} {l : List Bx} {w : World} {S : List Sl} {er : Int} (h : BxRow w A l) (hl : l.length ≤ 1099511627776) (e : ofS l = (S, er)) (hn : n = S.length) : Calls Try.prog 21 #[.slice A l.length cap] w (OfN12 n S er w) := by
  have k := bof_any A cap l w h hl
  rw [e] at k
  subst hn; exact k

end Go.Proofs.Ytdnoadngfkiabaa
namespace Go.Proofs.Ytdnoadngfkiabaa
open Go.RowKit


/-- the source of an append of boxes: nil, or cells that can be read. -/
def Src6 (w : World) (v2 : Value) (m : Nat) (news : List Value) : Prop := (v2 = .slice none 0 0 ∧ m = 0 ∧ news = []) ∨ ∃ ad c, v2 = .slice (some ad) m c ∧ news.length = m * 6 ∧ (∀ j u, news[j]? = some u → w.cell? (ad.add j) = some u) ∧ ∀ u ∈ news, u.oneCell' = true
theorem wpList_append_src6 {P : Program} {w : World} {ops : Array Oper} {rest : List Oper} {o : Oper} {a : Act} {Q : Exit → Act → World → Prop} (hgd : o.guard = none) (s x : Operand) (t : TypeId)
    (ho : o.op = .call { callee := .builtin .append, args := #[s, x], argTypes := #[t, t] })
    (base : Nat) (e : TypeId) (i : TypeInfo) (z : Value) (bytes : Nat) (ht : P.underlying t = some (.slice e)) (hi : P.info? e = some i) (hz : i.zero = some z)
    (hsize : i.size = 6) (hby : i.bytes = bytes) (hzs : z.cells.size = 6)
    (v : Value) (n : Nat) (xs : List Value) (hs : a.eval s = v) (hown : w.ownsRow base e 6 v n xs)
    (v2 : Value) (m : Nat) (news : List Value) (hx : a.eval x = v2) (hsrc : Src6 w v2 m news)
    (h63 : n + m ≤ maxLen) (hbytes : (n + m) * bytes ≤ 140737488355328) (hbase : base ≤ w.heap.size)
    (h : ∀ v' w', w'.ownsRow base e 6 v' (n + m) (xs ++ news) → w.grownBy w' v.ownBlock → wpList P ops Q rest (a.put o.dst v') w') : wpList P ops Q (o :: rest) a w := by
  rcases hsrc with ⟨h1, rfl, rfl⟩ | ⟨ad, c, h1, h2, h3, h4⟩
  · exact wpList_append_own_none hgd s x t ho base e i 6 ht hi v n xs hs hown (hx.trans h1) (h v w (by rw [List.append_nil]; exact hown) (World.grownBy.refl _ _))
  · exact wpList_append_own w hgd s x t ho base e i z 6 bytes ht hi hz hsize hby hzs (by decide) v n xs hs hown ad m c news (hx.trans h1) h2 h3 h4 h63 hbytes hbase (fun v' w' a b _ => h v' w' a b)
theorem bxcells_one : ∀ (l : List Bx), ∀ u ∈ bxcells l, u.oneCell' = true := by
  intro l u hu
  obtain ⟨t, _, h⟩ := List.mem_flatMap.1 hu
  simp [bxc] at h
  rcases h with rfl | rfl | rfl | rfl | rfl | rfl <;> rfl
theorem src_of6 {w : World} {A : Option Addr} {cap : Nat} {l : List Bx} (h : BIn w A cap l) : Src6 w (.slice A l.length cap) l.length (bxcells l) := by
  cases A with
  | none =>
    have h1 := h.nil rfl
    have h2 := h.room
    have h3 : l.length = 0 := by omega
    obtain rfl := List.length_eq_zero_iff.1 h3
    exact Or.inl ⟨by rw [h1]; rfl, rfl, rfl⟩
  | some ad =>
    refine Or.inr ⟨ad, cap, rfl, bxcells_len l, fun j u hu => ?_, bxcells_one l⟩
    have hj : j / 6 < l.length := by
      have := (List.getElem?_eq_some_iff.1 hu).1
      rw [bxcells_len] at this
      omega
    obtain ⟨b, o, e, hb, hc⟩ := h.row (by omega)
    injection e with e
    subst e
    obtain ⟨c0, c1, c2, c3, c4, c5⟩ := hc _ hj
    obtain ⟨d0, d1, d2, d3, d4, d5⟩ := bxcells_at l _ hj
    have hadd : (⟨b, o, none⟩ : Addr).add j = ⟨b, o + j, none⟩ := by unfold Addr.add; split <;> simp_all
    rw [hadd]
    have hm : j % 6 = 0 ∨ j % 6 = 1 ∨ j % 6 = 2 ∨ j % 6 = 3 ∨ j % 6 = 4 ∨ j % 6 = 5 := by omega
    rcases hm with hm | hm | hm | hm | hm | hm
    · rw [show j = j / 6 * 6 by omega] at hu ⊢
      rw [d0] at hu; rw [c0]; exact hu
    · rw [show j = j / 6 * 6 + 1 by omega] at hu ⊢
      rw [d1] at hu; rw [← Nat.add_assoc, c1]; exact hu
    · rw [show j = j / 6 * 6 + 2 by omega] at hu ⊢
      rw [d2] at hu; rw [← Nat.add_assoc, c2]; exact hu
    · rw [show j = j / 6 * 6 + 3 by omega] at hu ⊢
      rw [d3] at hu; rw [← Nat.add_assoc, c3]; exact hu
    · rw [show j = j / 6 * 6 + 4 by omega] at hu ⊢
      rw [d4] at hu; rw [← Nat.add_assoc, c4]; exact hu
    · rw [show j = j / 6 * 6 + 5 by omega] at hu ⊢
      rw [d5] at hu; rw [← Nat.add_assoc, c5]; exact hu
theorem zero_own6 (w : World) : (w.alloc (.cells #[] 45)).ownsRow w.heap.size 45 6 (.slice (some ⟨w.heap.size, 0, none⟩) 0 0) 0 [] :=
  ⟨rfl, Or.inr ⟨w.heap.size, 0, #[], rfl, Nat.le_refl _, heap_alloc_new w _, Nat.le_refl _, by unfold maxLen; omega, rfl, rfl⟩⟩


theorem bin_below {w w' : World} {A : Option Addr} {c : Nat} {l : List Bx} (h : BIn w A c l) (hb : Below w.heap.size w w') : BIn w' A c l := ⟨h.row.below hb, h.len, h.room, h.room2, h.nil⟩
theorem ssrow_two2 {w : World} {b : Nat} {A1 : Option Addr} {c1 n1 : Nat} {S1 : List Sl} {A2 : Option Addr} {c2 n2 : Nat} {S2 : List Sl} (hn1 : n1 = S1.length) (hn2 : n2 = S2.length) (h : w.heap[b]? = some (.cells #[.slice A1 n1 c1, .slice A2 n2 c2] 23 (0, 0))) (hs1 : SIn w A1 c1 S1) (hs2 : SIn w A2 c2 S2) : SsRow w (some ⟨b, 0, none⟩) [S1, S2] := fun _ => by
  subst hn1; subst hn2
  refine ⟨b, 0, rfl, (Array.getElem?_eq_some_iff.1 h).1, fun j hj => ?_⟩
  have : j = 0 ∨ j = 1 := by simp at hj; omega
  rcases this with rfl | rfl
  · exact ⟨A1, c1, by rw [Lib.cell_of_heap h]; rfl, hs1⟩
  · exact ⟨A2, c2, by rw [Lib.cell_of_heap h]; rfl, hs2⟩
/-! ### the mathematics -/
theorem both2_comm : ∀ (l m : List Bool), both2 l m = both2 m l
  | [], m => by unfold both2; simp
  | l, [] => by unfold both2; simp
  | a :: l, b :: m => by
    have h := both2_comm l m
    unfold both2 at h ⊢
    rw [List.zipWith_cons_cons, List.zipWith_cons_cons, h, Bool.and_comm]
theorem cnt_msk {lb : List Bool} (h : lb.length ≤ 24) : cntI ((mskN lb : Nat) : Int) = ((lb.count true : Nat) : Int) := by
  have hl := mskN_lt24 h
  unfold cntI
  rw [lowN_nat _ (by omega), popN_msk lb 63 (by omega)]
theorem cnt_zero : cntI 0 = 0 := by decide +kernel
structure Less12 (T : List V3) (S U : List Sl) (p : V3) : Prop where
  andE : bits .and .i64 (mskI T U p) (mskI T S p) = mskI T U p
  sub : mskI T S p - mskI T U p = lostI T S U p
  none : lostI T U S p = 0
  cnt : cntI (mskI T U p) + cntI (lostI T S U p) = cntI (mskI T S p)
  mof : mofI T [S, U] p = mskI T U p
  bd : 0 ≤ cntI (mskI T U p) ∧ cntI (mskI T U p) ≤ 63 ∧ 0 ≤ cntI (lostI T S U p) ∧ cntI (lostI T S U p) ≤ 63
  bd2 : 0 ≤ mskI T U p ∧ mskI T U p ≤ 16777216 ∧ 0 ≤ mskI T S p ∧ mskI T S p ≤ 16777216
theorem cnt_bd (m : Int) : 0 ≤ cntI m ∧ cntI m ≤ 63 := by
  unfold cntI
  have := popN_le 63 (lowN m)
  omega
theorem less12 {S U : List Sl} (hS : SolP S) (hU : SolP U) (h : ∀ x y z, cubS S x y z → cubS U x y z) (T : List V3) (p : V3) : Less12 T S U p := by
  have b1 := mskI_bd T U p
  have b2 := mskI_bd T S p
  have bd2 : 0 ≤ mskI T U p ∧ mskI T U p ≤ 16777216 ∧ 0 ≤ mskI T S p ∧ mskI T S p ≤ 16777216 := ⟨b1.1, b1.2, b2.1, b2.2⟩
  have bd : 0 ≤ cntI (mskI T U p) ∧ cntI (mskI T U p) ≤ 63 ∧ 0 ≤ cntI (lostI T S U p) ∧ cntI (lostI T S U p) ≤ 63 := ⟨(cnt_bd _).1, (cnt_bd _).2, (cnt_bd _).1, (cnt_bd _).2⟩
  by_cases h1 : TabOk T ∧ PtOk p
  case neg =>
    have z1 : mskI T U p = 0 := if_neg (fun k => h1 ⟨k.1, k.2.1⟩)
    have z2 : mskI T S p = 0 := if_neg (fun k => h1 ⟨k.1, k.2.1⟩)
    have z3 : lostI T S U p = 0 := if_neg (fun k => h1 ⟨k.1, k.2.1⟩)
    have z4 : lostI T U S p = 0 := if_neg (fun k => h1 ⟨k.1, k.2.1⟩)
    have z5 : mofI T [S, U] p = 0 := if_neg (fun k => h1 ⟨k.1, k.2.1⟩)
    refine ⟨?_, ?_, z4, ?_, ?_, bd, bd2⟩
    · rw [z1, z2]; exact i64_and_nat 0 0 (by omega) (by omega)
    · rw [z1, z2, z3]; rfl
    · rw [z1, z2, z3, cnt_zero]; rfl
    · rw [z5, z1]
  case pos =>
    obtain ⟨ht, hp⟩ := h1
    have e := sfr_sub hS hU h p T
    have hl : (frB S p T).length = (frB U p T).length := by rw [frB_len, frB_len]
    have l1 : (frB S p T).length ≤ 24 := by rw [frB_len]; exact ht.2
    have l2 : (frB U p T).length ≤ 24 := by rw [frB_len]; exact ht.2
    have z1 := mskI_yes ht hp hU
    have z2 := mskI_yes ht hp hS
    have z3 : lostI T S U p = ((mskN (minus2 (frB S p T) (frB U p T)) : Nat) : Int) := if_pos ⟨ht, hp, hS, hU⟩
    have z4 : lostI T U S p = ((mskN (minus2 (frB U p T) (frB S p T)) : Nat) : Int) := if_pos ⟨ht, hp, hU, hS⟩
    have z5 : mofI T [S, U] p = ((mskN (frL [S, U] p T) : Nat) : Int) := if_pos ⟨ht, hp, fun s hs => by
      rcases List.mem_cons.1 hs with rfl | hs
      · exact hS
      · rw [List.mem_singleton] at hs; subst hs; exact hU⟩
    have e5 : frL [S, U] p T = frB U p T := by
      have k := frL_take [S, U] p T 1 (by simp)
      have k1 : frL ([S, U].take 1) p T = frB S p T := frL_one S p T
      rw [k1] at k
      exact k.trans e.symm
    have lt1 := mskN_lt24 l1
    have lt2 := mskN_lt24 l2
    have sp := mskN_split hl
    have sp2 := mskN_split hl.symm
    have ec : both2 (frB U p T) (frB S p T) = frB U p T := by rw [both2_comm, ← e]
    have e' : List.zipWith (fun a b => a && b) (frB S p T) (frB U p T) = frB U p T := e.symm
    have ec' : List.zipWith (fun a b => a && b) (frB U p T) (frB S p T) = frB U p T := ec
    have cs := count_split hl
    rw [e'] at sp cs
    rw [ec'] at sp2
    have lm : (minus2 (frB S p T) (frB U p T)).length ≤ 24 := by unfold minus2; rw [List.length_zipWith]; omega
    have sp' : mskN (frB U p T) + mskN (minus2 (frB S p T) (frB U p T)) = mskN (frB S p T) := sp
    have sp2' : mskN (frB U p T) + mskN (minus2 (frB U p T) (frB S p T)) = mskN (frB U p T) := sp2
    have cs' : (frB U p T).count true + (minus2 (frB S p T) (frB U p T)).count true = (frB S p T).count true := cs
    refine ⟨?_, ?_, ?_, ?_, ?_, bd, bd2⟩
    · rw [z1, z2, i64_and_nat _ _ (by omega) (by omega), mskN_and, ec']
    · rw [z1, z2, z3]; omega
    · rw [z4]; omega
    · rw [z1, z2, z3, cnt_msk l1, cnt_msk l2, cnt_msk lm]; omega
    · rw [z5, e5, z1]
theorem less_cub {a b : List Bx} (ha : ∀ x ∈ a, BOk x) (hab : ∀ x ∈ a ++ b, BOk x) (x y z : Int) (h : cubS (solB a) x y z) : cubS (solB (a ++ b)) x y z := by
  have k := ((cs_b ha).cubes x y z).1 h
  obtain ⟨q, hq, r⟩ := k
  exact ((cs_b hab).cubes x y z).2 ⟨q, List.mem_append_left _ hq, r⟩

set_option maxHeartbeats 40000000 in
theorem less12_walk (A : Option Addr) (cap : Nat) (T : List V3) (B : Option Addr) (cb : Nat) (a : List Bx) (B2 : Option Addr) (cb2 : Nat) (b : List Bx) (p : V3) (w : World) (hT : TbIn w A cap T) (ha : BIn w B cb a) (hb0 : BIn w B2 cb2 b) :
    Calls Try.prog 4 #[.slice A T.length cap, .slice B a.length cb, .slice B2 b.length cb2, .agg #[.int .i64 p.x, .int .i64 p.y, .int .i64 p.z]] w (BlIs true w) := by
  have HSM := Lib.hid (fun w' => ismall_any w')
  have HT := Lib.hid hT.row
  have HA := Lib.hid ha
  have HBX := Lib.hid hb0
  have t1 := hT.len
  have a1 := ha.len
  have b1 := hb0.len
  clear hT ha hb0
  obtain ⟨w0, hw0⟩ : ∃ w0, w0 = w.alloc (.cells #[.int .i64 p.x, .int .i64 p.y, .int .i64 p.z] 25) := ⟨_, rfl⟩
  have HB0 : Hid (Below w.heap.size w w0) := Lib.hid (by rw [hw0]; exact (Below.refl _ _).alloc (Nat.le_refl _) _)
  have HP0 : Hid (P3At w0 w.heap.size p) := Lib.hid (by rw [hw0]; exact P3At.new w p)
  have HW0 := Lib.hid hw0
  clear hw0
  go_enter Try.func4, Try.ntmps4
  go_upto_region 1 with fail
  rw [← HW0.out]; clear HW0
  obtain ⟨g, hg⟩ : ∃ g, g = w.heap.size := ⟨_, rfl⟩
  rw [← hg] at HP0
  simp only [← hg]
  clear hg
  go_wp2_with fail
  with_reducible refine Calls.mono (HSM.out _) ?_
  rintro e w1 ⟨rfl, hb⟩
  have HB1 := Lib.hid (HB0.out.trans (hb.mono HB0.out.size))
  have HP1 := Lib.hid (HP0.out.go hb)
  clear hb HB0 HP0 HSM
  by_cases c0 : 30 < (T.length : Int)
  case pos =>
    clear HT HA HBX HP1
    go_wp2_with fail
    go_ret
    exact ⟨rfl, HB1.out⟩
  case neg =>
  by_cases c1 : 5 < (a.length : Int)
  case pos =>
    clear HT HA HBX HP1
    go_wp2_with fail
    go_ret
    exact ⟨rfl, HB1.out⟩
  case neg =>
  by_cases c2 : 5 < (b.length : Int)
  case pos =>
    clear HT HA HBX HP1
    go_wp2_with fail
    go_ret
    exact ⟨rfl, HB1.out⟩
  case neg =>
  obtain ⟨na, hna⟩ : ∃ na, na = a.length := ⟨_, rfl⟩
  obtain ⟨nb, hnb⟩ : ∃ nb, nb = b.length := ⟨_, rfl⟩
  have hna5 : na ≤ 5 := by omega
  have hnb5 : nb ≤ 5 := by omega
  have HNA := Lib.hid hna; have HNB := Lib.hid hnb
  rw [← hna] at c1
  rw [← hnb] at c2
  simp only [← hna, ← hnb]
  clear hna hnb a1 b1
  -- what Of gives
  obtain ⟨S1, er1, n1, hof1, hn1⟩ : ∃ S1 er1 n1, ofS a = (S1, er1) ∧ n1 = S1.length := ⟨_, _, _, rfl, rfl⟩
  obtain ⟨S2, er2, n2, hof2, hn2⟩ : ∃ S2 er2 n2, ofS (a ++ b) = (S2, er2) ∧ n2 = S2.length := ⟨_, _, _, rfl, rfl⟩
  have HCASE : Hid ((er1 = 1 ∧ er2 = 1) ∨ (er1 = 0 ∧ er2 = 1) ∨ (er1 = 0 ∧ er2 = 0 ∧ SolP S1 ∧ SolP S2 ∧ ∀ x y z, cubS S1 x y z → cubS S2 x y z)) := Lib.hid (by
    have la := HNA.out; have lb := HNB.out
    by_cases h1 : ∀ x ∈ a, BOk x
    · rw [ofS_small h1 (by omega)] at hof1
      injection hof1 with q1 q2
      by_cases h2 : ∀ x ∈ a ++ b, BOk x
      · have hlen : (a ++ b).length ≤ 14 := by rw [List.length_append]; omega
        rw [ofS_small h2 hlen] at hof2
        injection hof2 with q3 q4
        refine Or.inr (Or.inr ⟨q2.symm, q4.symm, ?_, ?_, ?_⟩)
        · rw [← q1]; exact solB_small h1 (by omega)
        · rw [← q3]; exact solB_small h2 hlen
        · rw [← q1, ← q3]; exact less_cub h1 h2
      · rw [ofS_bad h2] at hof2
        injection hof2 with q3 q4
        exact Or.inr (Or.inl ⟨q2.symm, q4.symm⟩)
    · rw [ofS_bad h1] at hof1
      injection hof1 with q1 q2
      have h2 : ¬ ∀ x ∈ a ++ b, BOk x := fun h => h1 (fun x hx => h x (List.mem_append_left _ hx))
      rw [ofS_bad h2] at hof2
      injection hof2 with q3 q4
      exact Or.inl ⟨q2.symm, q4.symm⟩)
  have HO1 : Hid (∀ w', Below w.heap.size w w' → Calls Try.prog 21 #[.slice B na cb] w' (OfN12 n1 S1 er1 w')) := Lib.hid (fun w' hb => by
    have := HNA.out
    rw [HNA.out]; exact of_n12 (HA.out.row.below hb) (by omega) hof1 hn1)
  have HO2 : Hid (∀ w' A' c', BxRow w' A' (a ++ b) → Calls Try.prog 21 #[.slice A' (na + nb) c'] w' (OfN12 n2 S2 er2 w')) := Lib.hid (fun w' A' c' hr => by
    have h1 := HNA.out; have h2 := HNB.out
    have e : na + nb = (a ++ b).length := by rw [List.length_append]; omega
    rw [e]; exact of_n12 hr (by omega) hof2 hn2)
  have HN1 := Lib.hid hn1; have HN2 := Lib.hid hn2
  clear hof1 hof2 hn1 hn2
  go_wp2_with fail
  with_reducible refine Calls.mono (HO1.out _ HB1.out) ?_
  rintro e w2 ⟨A1, q1, rfl, hs, hb⟩
  have HB2 := Lib.hid (HB1.out.trans (hb.mono HB1.out.size))
  have HP2 := Lib.hid (HP1.out.go hb)
  have HS1 := Lib.hid hs
  clear hb hs HB1 HO1 HP1
  obtain ⟨i0, hi9, hz0, hz1, hz2⟩ := info_parts infoBox
  have st1 := Lib.hid (zero_own6 w2)
  have BB1 : Hid (Below w2.heap.size w2 (w2.alloc (.cells #[] 45))) := Lib.hid ((Below.refl _ _).alloc (Nat.le_refl _) _)
  have SR1 : Hid (Src6 (w2.alloc (.cells #[] 45)) (.slice B na cb) na (bxcells a)) := Lib.hid (by rw [HNA.out]; exact src_of6 (bin_below (bin_below HA.out HB2.out) BB1.out))
  go_wp2_with (at_builtin; refine wpList_append_src6 rfl _ _ 35 rfl w2.heap.size 45 i0 (.agg #[.int .i64 0, .int .i64 0, .int .i64 0, .int .i64 0, .int .i64 0, .int .i64 0]) 48 Try.underlying35 hi9 hz0 hz1 hz2 rfl _ _ _ rfl st1.out _ _ _ rfl SR1.out ?q1 ?q2 ?q3 ?_)
  case q1 => unfold maxLen; omega
  case q2 => omega
  case q3 => exact BB1.out.size
  intro v1 u1 own1 gr1
  have OW1 : Hid (u1.ownsRow w2.heap.size 45 6 v1 na (bxcells a)) := Lib.hid (by first | exact own1 | (rw [Nat.zero_add, List.nil_append] at own1; exact own1))
  have BB2 : Hid (Below w2.heap.size w2 u1) := Lib.hid (Below.grown BB1.out gr1 BB1.out.size (fun j hj => (st1.out.lt j hj).1))
  have SR2 : Hid (Src6 u1 (.slice B2 nb cb2) nb (bxcells b)) := Lib.hid (by rw [HNB.out]; exact src_of6 (bin_below (bin_below HBX.out HB2.out) BB2.out))
  clear own1 gr1 st1 SR1 BB1
  go_wp2_with (at_builtin; refine wpList_append_src6 rfl _ _ 35 rfl w2.heap.size 45 i0 (.agg #[.int .i64 0, .int .i64 0, .int .i64 0, .int .i64 0, .int .i64 0, .int .i64 0]) 48 Try.underlying35 hi9 hz0 hz1 hz2 rfl _ _ _ rfl OW1.out _ _ _ rfl SR2.out ?q1 ?q2 ?q3 ?_)
  case q1 => unfold maxLen; omega
  case q2 => omega
  case q3 => exact BB2.out.size
  intro v2 u2 own2 gr2
  have BB3 : Hid (Below w2.heap.size w2 u2) := Lib.hid (Below.grown BB2.out gr2 BB2.out.size (fun j hj => (OW1.out.lt j hj).1))
  obtain ⟨A3, c3, rfl, hr3⟩ : ∃ A3 c3, v2 = .slice A3 (na + nb) c3 ∧ BxRow u2 A3 (a ++ b) := by
    have e : na + nb = (a ++ b).length := by rw [List.length_append, ← HNA.out, ← HNB.out]
    rw [e, ← bxcells_append] at own2
    obtain ⟨A3, c3, e3, h3, _⟩ := own_boxes own2
    rw [e]
    exact ⟨A3, c3, e3, h3⟩
  have HR3 := Lib.hid hr3
  have HB3 := Lib.hid (HB2.out.trans (BB3.out.mono HB2.out.size))
  have HP3 := Lib.hid (HP2.out.go BB3.out)
  have HS3 := Lib.hid (HS1.out.below BB3.out)
  clear own2 gr2 OW1 SR2 BB2 BB3 hr3 HB2 HP2 HS1
  clear i0 hi9 hz0 hz1 hz2
  go_wp2_with fail
  with_reducible refine Calls.mono (HO2.out _ _ _ HR3.out) ?_
  rintro e w4 ⟨A2, q2, rfl, hs, hb⟩
  have HB4 := Lib.hid (HB3.out.trans (hb.mono HB3.out.size))
  have HP4 := Lib.hid (HP3.out.go hb)
  have HS4 := Lib.hid (HS3.out.below hb)
  have HU4 := Lib.hid hs
  clear hb hs HB3 HO2 HP3 HS3 HR3 HA HBX HNA HNB
  rcases HCASE.out with ⟨rfl, rfl⟩ | ⟨rfl, rfl⟩ | ⟨rfl, rfl, hs1, hs2, hsub⟩
  · clear HCASE HT HN1 HN2 HP4
    go_wp2_with fail
    go_ret
    exact ⟨rfl, HB4.out⟩
  · clear HCASE HT HN1 HN2 HP4
    go_wp2_with fail
    go_ret
    exact ⟨rfl, HB4.out⟩
  · have HL := Lib.hid (less12 hs1 hs2 hsub T p)
    clear HCASE hs1 hs2 hsub
    have D0 := Lib.hid (fun w' (hb : Below w4.heap.size w4 w') => g2mask_any A cap T A1 q1 S1 p w' (HT.out.below (HB4.out.trans (hb.mono HB4.out.size))) t1 (HS4.out.below hb))
    have D1 := Lib.hid (fun w' (hb : Below w4.heap.size w4 w') => g2mask_any A cap T A2 q2 S2 p w' (HT.out.below (HB4.out.trans (hb.mono HB4.out.size))) t1 (HU4.out.below hb))
    have D2 := Lib.hid (fun w' (hb : Below w4.heap.size w4 w') => g2lost_any A cap T A1 q1 S1 A2 q2 S2 p w' (HT.out.below (HB4.out.trans (hb.mono HB4.out.size))) t1 (HS4.out.below hb) (HU4.out.below hb))
    have D3 := Lib.hid (fun w' (hb : Below w4.heap.size w4 w') => g2lost_any A cap T A2 q2 S2 A1 q1 S1 p w' (HT.out.below (HB4.out.trans (hb.mono HB4.out.size))) t1 (HU4.out.below hb) (HS4.out.below hb))
    have D4 : Hid (∀ w', Below w4.heap.size w4 w' → ∀ bb, w'.heap[bb]? = some (.cells #[.slice A1 n1 q1, .slice A2 n2 q2] 23 (0, 0)) → Calls Try.prog 15 #[.slice A T.length cap, .slice (some ⟨bb, 0, none⟩) 2 2, .agg #[.int .i64 p.x, .int .i64 p.y, .int .i64 p.z]] w' (InIs (mofI T [S1, S2] p) w')) := Lib.hid (fun w' hb bb hg => g2maskOf_any A cap T (some ⟨bb, 0, none⟩) 2 [S1, S2] p w' (HT.out.below (HB4.out.trans (hb.mono HB4.out.size))) t1 (ssrow_two2 HN1.out HN2.out hg (HS4.out.below hb) (HU4.out.below hb)) (by simp))
    simp only [← HN1.out, ← HN2.out] at D0 D1 D2 D3
    obtain ⟨l1, l2, l3, l4, l5, l6, l7⟩ := HL.out
    rw [l3] at D3
    rw [l5] at D4
    have F0 := Lib.hid (fun w' => g2count_any (mskI T S2 p) w')
    have F1 := Lib.hid (fun w' => g2count_any (lostI T S1 S2 p) w')
    have F2 := Lib.hid (fun w' => g2count_any (mskI T S1 p) w')
    generalize cntI (mskI T S2 p) = k2 at *
    generalize cntI (lostI T S1 S2 p) = k3 at *
    generalize cntI (mskI T S1 p) = k1 at *
    generalize mskI T S2 p = m2 at *
    generalize lostI T S1 S2 p = m3 at *
    generalize mskI T S1 p = m1 at *
    obtain ⟨y1, y2, y3, y4⟩ := l6
    obtain ⟨z1, z2, z3, z4⟩ := l7
    clear HL l3 l5 HT HN1 HN2 HS4 HU4 t1
    have hbz := Lib.hid (Below.refl w4.heap.size w4)
    have p0 := HP4.out.c0; have p1 := HP4.out.c1; have p2 := HP4.out.c2; have pl := HP4.out.lt
    go_wp2_with fail
    with_reducible refine Calls.mono (D0.out _ hbz.out) ?_
    rintro e w5 ⟨rfl, hb⟩
    have HB5 := Lib.hid (HB4.out.trans (hb.mono HB4.out.size))
    have HP5 := Lib.hid (HP4.out.go hb)
    replace hbz := Lib.hid (hbz.out.trans (hb.mono hbz.out.size))
    clear hb HB4 HP4 p0 p1 p2 pl
    have p0 := HP5.out.c0; have p1 := HP5.out.c1; have p2 := HP5.out.c2; have pl := HP5.out.lt
    go_wp2_with fail
    with_reducible refine Calls.mono (D1.out _ hbz.out) ?_
    rintro e w6 ⟨rfl, hb⟩
    have HB6 := Lib.hid (HB5.out.trans (hb.mono HB5.out.size))
    have HP6 := Lib.hid (HP5.out.go hb)
    replace hbz := Lib.hid (hbz.out.trans (hb.mono hbz.out.size))
    clear hb HB5 HP5 p0 p1 p2 pl
    have p0 := HP6.out.c0; have p1 := HP6.out.c1; have p2 := HP6.out.c2; have pl := HP6.out.lt
    go_wp2_with fail
    with_reducible refine Calls.mono (D2.out _ hbz.out) ?_
    rintro e w7 ⟨rfl, hb⟩
    have HB7 := Lib.hid (HB6.out.trans (hb.mono HB6.out.size))
    have HP7 := Lib.hid (HP6.out.go hb)
    replace hbz := Lib.hid (hbz.out.trans (hb.mono hbz.out.size))
    clear hb HB6 HP6 p0 p1 p2 pl
    go_upto_region 11 with fail
    have p0 := HP7.out.c0; have p1 := HP7.out.c1; have p2 := HP7.out.c2; have pl := HP7.out.lt
    go_wp2_with fail
    with_reducible refine Calls.mono (D3.out _ hbz.out) ?_
    rintro e w8 ⟨rfl, hb⟩
    have HB8 := Lib.hid (HB7.out.trans (hb.mono HB7.out.size))
    have HP8 := Lib.hid (HP7.out.go hb)
    replace hbz := Lib.hid (hbz.out.trans (hb.mono hbz.out.size))
    clear hb HB7 HP7 p0 p1 p2 pl
    have p0 := HP8.out.c0; have p1 := HP8.out.c1; have p2 := HP8.out.c2; have pl := HP8.out.lt
    go_wp2_with fail
    with_reducible refine Calls.mono (F0.out _) ?_
    rintro e w9 ⟨rfl, hb⟩
    have HB9 := Lib.hid (HB8.out.trans (hb.mono HB8.out.size))
    have HP9 := Lib.hid (HP8.out.go hb)
    replace hbz := Lib.hid (hbz.out.trans (hb.mono hbz.out.size))
    clear hb HB8 HP8 p0 p1 p2 pl
    have p0 := HP9.out.c0; have p1 := HP9.out.c1; have p2 := HP9.out.c2; have pl := HP9.out.lt
    go_wp2_with fail
    with_reducible refine Calls.mono (F1.out _) ?_
    rintro e w10 ⟨rfl, hb⟩
    have HB10 := Lib.hid (HB9.out.trans (hb.mono HB9.out.size))
    have HP10 := Lib.hid (HP9.out.go hb)
    replace hbz := Lib.hid (hbz.out.trans (hb.mono hbz.out.size))
    clear hb HB9 HP9 p0 p1 p2 pl
    have p0 := HP10.out.c0; have p1 := HP10.out.c1; have p2 := HP10.out.c2; have pl := HP10.out.lt
    go_wp2_with fail
    with_reducible refine Calls.mono (F2.out _) ?_
    rintro e w11 ⟨rfl, hb⟩
    have HB11 := Lib.hid (HB10.out.trans (hb.mono HB10.out.size))
    have HP11 := Lib.hid (HP10.out.go hb)
    replace hbz := Lib.hid (hbz.out.trans (hb.mono hbz.out.size))
    clear hb HB10 HP10 p0 p1 p2 pl
    obtain ⟨v9, hv9⟩ : ∃ v9, v9 = w11.alloc (.cells #[.slice A1 n1 q1, .slice A2 n2 q2] 23) := ⟨_, rfl⟩
    have hb : Below w11.heap.size w11 v9 := by rw [hv9]; exact (Below.refl _ _).alloc (Nat.le_refl _) _
    have hg : v9.heap[w11.heap.size]? = some (.cells #[.slice A1 n1 q1, .slice A2 n2 q2] 23 (0, 0)) := by rw [hv9]; exact heap_alloc_new w11 _
    have HB9 := Lib.hid (HB11.out.trans (hb.mono HB11.out.size))
    have HP9 := Lib.hid (HP11.out.go hb)
    have HCC := Lib.hid (D4.out v9 (hbz.out.trans (hb.mono hbz.out.size)) _ hg)
    have p0 := HP9.out.c0; have p1 := HP9.out.c1; have p2 := HP9.out.c2; have pl := HP9.out.lt
    have q10 := HP11.out.c0; have q11 := HP11.out.c1; have q12 := HP11.out.c2; have q1l := HP11.out.lt
    rw [hv9] at p0 p1 p2 pl
    have HV := Lib.hid hv9
    clear hv9 hb hg HB11 HP11 hbz D4
    go_wp2_with fail
    rw [← HV.out]
    with_reducible refine Calls.mono HCC.out ?_
    rintro e w99 ⟨rfl, hb⟩
    have HZ := Lib.hid (HB9.out.trans (hb.mono HB9.out.size))
    clear hb HB9 HP9 HCC HV p0 p1 p2 pl q10 q11 q12 q1l
    go_wp2_with fail
    go_ret
    exact ⟨rfl, HZ.out⟩

end Go.Proofs.Ytdnoadngfkiabaa
