/-
  The walk of RegionAlgebra for every input.
-/
import Derived.Test.YtfjmcigjlhgjcaaId
set_option linter.unusedVariables false
set_option maxRecDepth 100000
namespace Go.Proofs.Ytfjmcigjlhgjcaa
open Go.RowKit

set_option maxHeartbeats 16000000 in
theorem algebra_err (Aa Ab Ac : Option Addr) (ca cb cc na nb nc pa pb pc : Nat) (a b c La Lb Lc : List Rc) (ea eb ec : Int) (w : World) (ha : RIn w Aa ca a) (hb : RIn w Ab cb b) (hc : RIn w Ac cc c)
    (ma : na ≤ 4) (mb : nb ≤ 4) (mc : nc ≤ 4) (xa : ea = 0 ∨ ea = 1) (xb : eb = 0 ∨ eb = 1) (xc : ec = 0 ∨ ec = 1) (xx : ¬ (ea = 0 ∧ eb = 0 ∧ ec = 0))
    (HX : Hid (∀ (w' : World) (A1 : Option Addr) (c1 : Nat), RIn w' A1 c1 a → Calls Try.prog 10 #[.slice A1 na c1] w' (RR La pa ea w')))
    (HY : Hid (∀ (w' : World) (A1 : Option Addr) (c1 : Nat), RIn w' A1 c1 b → Calls Try.prog 10 #[.slice A1 nb c1] w' (RR Lb pb eb w')))
    (HZ : Hid (∀ (w' : World) (A1 : Option Addr) (c1 : Nat), RIn w' A1 c1 c → Calls Try.prog 10 #[.slice A1 nc c1] w' (RR Lc pc ec w'))) :
    Calls Try.prog 5 #[.slice Aa na ca, .slice Ab nb cb, .slice Ac nc cc] w (BlIs true w) := by
  have HS := Lib.hid (small_any w)
  have HA := Lib.hid ha; have HB := Lib.hid hb; have HC := Lib.hid hc
  have XX := Lib.hid xx
  clear ha hb hc xx
  have m1 : ¬ (4 : Int) < (na : Int) := by omega
  have m2 : ¬ (4 : Int) < (nb : Int) := by omega
  have m3 : ¬ (4 : Int) < (nc : Int) := by omega
  go_enter Try.func5, Try.ntmps5
  go_wp2_with fail
  refine HS.out.mono ?_
  rintro e w1 ⟨rfl, hb1⟩
  have HB1 := Lib.hid hb1; clear hb1 HS
  go_wp2_with fail
  refine (HX.out _ _ _ (HA.out.below HB1.out)).mono ?_
  rintro e1 w2 ⟨A2, c2, rfl, _, hb2⟩
  have HB2 := Lib.hid (HB1.out.trans (hb2.mono HB1.out.size)); clear hb2 HB1
  go_wp2_with fail
  refine (HY.out _ _ _ (HB.out.below HB2.out)).mono ?_
  rintro e1 w3 ⟨A3, c3, rfl, _, hb3⟩
  have HB3 := Lib.hid (HB2.out.trans (hb3.mono HB2.out.size)); clear hb3 HB2
  go_wp2_with fail
  refine (HZ.out _ _ _ (HC.out.below HB3.out)).mono ?_
  rintro e1 w4 ⟨A4, c4, rfl, _, hb4⟩
  have HB4 := Lib.hid (HB3.out.trans (hb4.mono HB3.out.size)); clear hb4 HB3
  rcases xa with rfl | rfl
  · rcases xb with rfl | rfl
    · rcases xc with rfl | rfl
      · exact absurd ⟨rfl, rfl, rfl⟩ XX.out
      · clear XX HX HY HZ
        go_wp2_with fail
        go_ret
        exact ⟨rfl, HB4.out⟩
    · rcases xc with rfl | rfl
      all_goals
        clear XX HX HY HZ
        go_wp2_with fail
        go_ret
        exact ⟨rfl, HB4.out⟩
  · rcases xb with rfl | rfl
    all_goals
      rcases xc with rfl | rfl
      all_goals
        clear XX HX HY HZ
        go_wp2_with fail
        go_ret
        exact ⟨rfl, HB4.out⟩
theorem of_two (l : List Rc) (h : l.length ≤ 4) : (∀ r ∈ l, ROk r) ∧ (ofR l).2 = 0 ∨ ¬ (∀ r ∈ l, ROk r) ∧ (ofR l).2 = 1 := by
  by_cases ho : ∀ r ∈ l, ROk r
  · refine Or.inl ⟨ho, ?_⟩
    unfold ofR
    rw [if_pos ho, if_pos (by omega), cap_le (Nat.le_trans (sq_le (k := 4) (form_sq ho) h) (by omega))]
  · refine Or.inr ⟨ho, ?_⟩
    unfold ofR
    rw [if_neg ho]
theorem ofR_len (l : List Rc) : (ofR l).1.length ≤ 1099511627776 := by
  unfold ofR
  split
  · split
    · exact capR_len _
    · simp
  · simp
set_option maxHeartbeats 8000000 in
theorem algebra_walk (Aa Ab Ac : Option Addr) (ca cb cc : Nat) (a b c : List Rc) (w : World) (ha : RRow w Aa a) (hb : RRow w Ab b) (hc : RRow w Ac c) (la : a.length ≤ 9223372036854775807) (lb : b.length ≤ 9223372036854775807) (lc : c.length ≤ 9223372036854775807)
    (ra : a.length ≤ ca) (rb : b.length ≤ cb) (rc : c.length ≤ cc) (sa : ca ≤ 9223372036854775807) (sb : cb ≤ 9223372036854775807) (sc : cc ≤ 9223372036854775807) (HAN : Aa = none → ca = 0) (HBN : Ab = none → cb = 0) (HCN : Ac = none → cc = 0) :
    Calls Try.prog 5 #[.slice Aa a.length ca, .slice Ab b.length cb, .slice Ac c.length cc] w (BlIs true w) := by
  have HS := Lib.hid (small_any w)
  by_cases ma : 4 < a.length
  · have m1 : (4 : Int) < (a.length : Int) := by omega
    clear ha hb hc HAN HBN HCN ma
    go_enter Try.func5, Try.ntmps5
    go_wp2_with fail
    refine HS.out.mono ?_
    rintro e w1 ⟨rfl, hb1⟩
    have HB1 := Lib.hid hb1; clear hb1
    go_wp2_with fail
    go_ret
    exact ⟨rfl, HB1.out⟩
  · by_cases mb : 4 < b.length
    · have m1 : ¬ (4 : Int) < (a.length : Int) := by omega
      have m2 : (4 : Int) < (b.length : Int) := by omega
      clear ha hb hc HAN HBN HCN ma mb
      go_enter Try.func5, Try.ntmps5
      go_wp2_with fail
      refine HS.out.mono ?_
      rintro e w1 ⟨rfl, hb1⟩
      have HB1 := Lib.hid hb1; clear hb1
      go_wp2_with fail
      go_ret
      exact ⟨rfl, HB1.out⟩
    · by_cases mc : 4 < c.length
      · have m1 : ¬ (4 : Int) < (a.length : Int) := by omega
        have m2 : ¬ (4 : Int) < (b.length : Int) := by omega
        have m3 : (4 : Int) < (c.length : Int) := by omega
        clear ha hb hc HAN HBN HCN ma mb mc
        go_enter Try.func5, Try.ntmps5
        go_wp2_with fail
        refine HS.out.mono ?_
        rintro e w1 ⟨rfl, hb1⟩
        have HB1 := Lib.hid hb1; clear hb1
        go_wp2_with fail
        go_ret
        exact ⟨rfl, HB1.out⟩
      · have ia : RIn w Aa ca a := ⟨ha, by omega, ra, sa⟩
        have ib : RIn w Ab cb b := ⟨hb, by omega, rb, sb⟩
        have ic : RIn w Ac cc c := ⟨hc, by omega, rc, sc⟩
        have ta := of_two a (by omega)
        have tb := of_two b (by omega)
        have tc := of_two c (by omega)
        by_cases ok : (ofR a).2 = 0 ∧ (ofR b).2 = 0 ∧ (ofR c).2 = 0
        · obtain ⟨o1, o2, o3⟩ := ok
          have oa : ∀ r ∈ a, ROk r := by
            rcases ta with h | h
            · exact h.1
            · have := h.2; omega
          have ob : ∀ r ∈ b, ROk r := by
            rcases tb with h | h
            · exact h.1
            · have := h.2; omega
          have oc : ∀ r ∈ c, ROk r := by
            rcases tc with h | h
            · exact h.1
            · have := h.2; omega
          exact algebra_ok Aa Ab Ac ca cb cc a b c w ia ib ic HAN HBN HCN (by omega) (by omega) (by omega) oa ob oc
        · exact algebra_err Aa Ab Ac ca cb cc _ _ _ _ _ _ a b c (ofR a).1 (ofR b).1 (ofR c).1 (ofR a).2 (ofR b).2 (ofR c).2 w ia ib ic (by omega) (by omega) (by omega)
            (by rcases ta with h | h; exact Or.inl h.2; exact Or.inr h.2) (by rcases tb with h | h; exact Or.inl h.2; exact Or.inr h.2) (by rcases tc with h | h; exact Or.inl h.2; exact Or.inr h.2) ok
            (Lib.hid (con_of rfl (ofR_len a))) (Lib.hid (con_of rfl (ofR_len b))) (Lib.hid (con_of rfl (ofR_len c)))
end Go.Proofs.Ytfjmcigjlhgjcaa
