/-
  Contracts of the program's layer 6 (7): join.
-/
import Derived.Test.YtdnoadngfkiabaaP905
import Derived.IntWalk
import Derived.Laws.AppendOwnNone
set_option linter.unusedVariables false
set_option maxRecDepth 100000
namespace Go.Proofs.Ytdnoadngfkiabaa
open Go.RowKit

def JoinRes (B : Nat) (F : List Rc) (w : World) (e : Ending) (w' : World) : Prop := ∃ v, e = .returned v ∧ w'.ownsRow B 43 4 v F.length (rcells F) ∧ Below B w w' ∧ (F = [] → v = .slice none 0 0)
theorem own_zero {w : World} {B : Nat} {v : Value} (h : w.ownsRow B 43 4 v 0 (rcells [])) : v = .slice none 0 0 ∨ ∃ g cap, v = .slice (some ⟨g, 0, none⟩) 0 cap ∧ g < w.heap.size ∧ B ≤ g := by
  have hl := h.lt
  obtain ⟨_, h2⟩ := h
  rcases h2 with ⟨rfl, _⟩ | ⟨g, cap, cur, rfl, hB, hg, h4⟩
  · exact Or.inl rfl
  · exact Or.inr ⟨g, cap, rfl, (hl g rfl).2, hB⟩
theorem rects_map_len (x0 x1 y1 : Int) (t : List Int) : (rectsOf x0 x1 t).length = (rectsOf x0 y1 t).length := by simp [rectsOf]
/-- the last slab while its right side is being moved. -/
def gK (P : List Rc) (x0 x1 b : Int) (c : List Int) (k : Nat) : List Rc := P ++ ((rectsOf x0 b c).take k ++ (rectsOf x0 x1 c).drop k)
theorem gK_len (P : List Rc) (x0 x1 b : Int) (c : List Int) (k : Nat) (h : k ≤ (rectsOf x0 x1 c).length) : (gK P x0 x1 b c k).length = P.length + (rectsOf x0 x1 c).length := by
  have := rects_map_len x0 x1 b c
  simp [gK]; omega
theorem gK_next (P : List Rc) (x0 x1 b : Int) (c : List Int) (k : Nat) (h : k < (rectsOf x0 x1 c).length) : ∃ h2 : P.length + k < (gK P x0 x1 b c k).length,
    (gK P x0 x1 b c k).set (P.length + k) ⟨(gK P x0 x1 b c k)[P.length + k].X0, (gK P x0 x1 b c k)[P.length + k].Y0, b, (gK P x0 x1 b c k)[P.length + k].Y1⟩ = gK P x0 x1 b c (k + 1) := by
  have hl := rects_map_len x0 x1 b c
  have h2 : P.length + k < (gK P x0 x1 b c k).length := by rw [gK_len _ _ _ _ _ _ (by omega)]; omega
  refine ⟨h2, ?_⟩
  have htk : ((rectsOf x0 b c).take k).length = k := by rw [List.length_take]; omega
  have e : (gK P x0 x1 b c k)[P.length + k] = (rectsOf x0 x1 c)[k] := by
    simp only [gK]
    rw [List.getElem_append_right (by omega)]
    simp only [Nat.add_sub_cancel_left]
    rw [List.getElem_append_right (by omega)]
    simp [htk]
  rw [e]
  have e2 : (⟨((rectsOf x0 x1 c)[k]).X0, ((rectsOf x0 x1 c)[k]).Y0, b, ((rectsOf x0 x1 c)[k]).Y1⟩ : Rc) = (rectsOf x0 b c)[k]'(by omega) := by
    simp only [← rects_wide' x0 x1 b c, List.getElem_map]
  rw [e2]
  simp only [gK]
  rw [List.set_append_right _ _ (by omega)]
  simp only [Nat.add_sub_cancel_left]
  congr 1
  rw [List.set_append_right _ _ (by omega), htk, Nat.sub_self, List.drop_eq_getElem_cons h, List.set_cons_zero, List.take_succ_eq_append_getElem (by omega), List.append_assoc]
  rfl
theorem glast_nil (w : World) : Calls Try.prog 101 #[.slice none 0 0] w fun e w' => e = .returned (.slice none 0 0) ∧ ∃ q, w' = w.drewN q := by
  go_enter Try.func101, Try.ntmps101
  go_wp2
  go_loopw [3] (fun i wr => i = .int .i64 0 ∧ ∃ q, wr = w.drewN q) (fun i _ => 0)
  case atStart => exact ⟨rfl, 0, rfl⟩
  case round =>
    obtain ⟨rfl, q, rfl⟩ := hrel
    go_wp2_with fail
    go_quiet (fail)
    go_wp2
    go_ret
    exact ⟨rfl, _, rfl⟩
set_option maxHeartbeats 40000000 in
theorem gjoin_any (T : List Slab) (a b : Int) (c : List Int) (vf vs : Value) (B B2 : Nat) (w : World) (hg : Grown T a) (hab : a < b) (hc : ColOk c)
    (hF : w.ownsRow B 43 4 vf (flatS T).length (rcells (flatS T))) (hR : w.ownsRow B2 43 4 vs (rectsOf a b c).length (rcells (rectsOf a b c)))
    (hnil : flatS T = [] → vf = .slice none 0 0) (hB : B ≤ w.heap.size) (hB2 : ∀ g, vf.ownBlock = some g → g < B2) (hFl : (flatS T).length ≤ 1000) (hRl : (rectsOf a b c).length ≤ 1048576) :
    Calls Try.prog 74 #[vf, vs] w (JoinRes B (flatS (stepF T a b c)) w) := by
  obtain ⟨i0, hi9, hz0, hz1, hz2⟩ := info_parts infoRect
  obtain ⟨AR, cR, rfl, hRR, hRc, hRc2, hRA, _⟩ := own_rects hR
  have HRR := Lib.hid hRR
  have HRO := Lib.hid hR
  clear hRR hR
  -- what an append leaves
  have APP : Hid (∀ v' w' w2, w2.ownsRow B 43 4 vf (flatS T).length (rcells (flatS T)) → Below B w w2 → w'.ownsRow B 43 4 v' ((flatS T).length + (rectsOf a b c).length) (rcells (flatS T) ++ rcells (rectsOf a b c)) → w2.grownBy w' vf.ownBlock → (v' = .slice none 0 0 ↔ vf = .slice none 0 0 ∧ (rectsOf a b c).length = 0) → flatS T ++ rectsOf a b c = flatS (stepF T a b c) → JoinRes B (flatS (stepF T a b c)) w (.returned v') w') := Lib.hid (fun v' w' w2 ho hb2 ho' hgr hn he => by
    refine ⟨v', rfl, ?_, Below.grown hb2 hgr (Nat.le_trans hB hb2.size) (fun k hk => (ho.lt k hk).1), fun h => ?_⟩
    · rw [← he, List.length_append, rcells_append]; exact ho'
    · rw [← he] at h
      have h1 := List.append_eq_nil_iff.1 h
      exact hn.2 ⟨hnil h1.1, by rw [h1.2]; rfl⟩)
  by_cases hT : T = []
  · subst hT
    have hv0 : vf = .slice none 0 0 := hnil rfl
    subst hv0
    have EQ : Hid (flatS [] ++ rectsOf a b c = flatS (stepF [] a b c)) := Lib.hid (by
      unfold stepF
      by_cases h : c = []
      · subst h; simp [flatS, rectsOf, twos]
      · rw [if_neg h]; simp [flatS])
    have hown := hF
    have HOWN := Lib.hid hown
    clear hF hnil hB2 hown
    rcases Nat.eq_zero_or_pos (rectsOf a b c).length with hr0 | hr0
    · have hrn : rectsOf a b c = [] := List.length_eq_zero_iff.1 hr0
      have hz := HRO.out
      rw [hrn] at hz
      have HRE : Hid (0 = (rectsOf a b c).length) := Lib.hid hr0.symm
      have HRN := Lib.hid hrn
      rw [hr0] at hRl hRc
      rw [hr0]
      have hz2 : w.ownsRow B2 43 4 (.slice AR 0 cR) 0 (rcells []) := by
        have := HRO.out
        rw [hr0, hrn] at this; exact this
      clear hrn hz HRR hr0
      rcases own_zero hz2 with h | ⟨gR, cap, h, hgR, _⟩
      · obtain ⟨rfl, _, rfl⟩ : AR = none ∧ True ∧ cR = 0 := by
          injection h with h1 h2 h3; exact ⟨h1, trivial, h3⟩
        clear h hz2 HRO
        go_enter Try.func74, Try.ntmps74
        go_wp2_with fail
        refine (glast_nil w).mono ?_
        rintro e w1 ⟨rfl, q, rfl⟩
        have HB2 := Lib.hid (below_drewN (Below.refl w.heap.size w) q)
        go_wp2_with (at_builtin; refine wpList_append_own_none rfl _ _ 48 rfl B 43 i0 4 Try.underlying48 hi9 hz1 _ _ _ rfl (own_go HOWN.out HB2.out) rfl ?_)
        have FIN := Lib.hid (APP.out _ _ _ (own_go HOWN.out HB2.out) (HB2.out.mono hB) (by rw [HRN.out]; simp only [List.length_nil, Nat.add_zero, rcells, List.flatMap_nil, List.append_nil]; exact own_go HOWN.out HB2.out) (World.grownBy.refl _ _) (by rw [HRN.out]; simp) EQ.out)
        go_wp2_with fail
        go_ret
        exact FIN.out
      · obtain ⟨rfl, _, rfl⟩ : AR = some ⟨gR, 0, none⟩ ∧ True ∧ cR = cap := by
          injection h with h1 h2 h3; exact ⟨h1, trivial, h3⟩
        clear h hz2 HRO
        have C0X : Hid (([] : List Value).length = 0 * 4) := Lib.hid rfl
        have C1X : Hid (∀ w2, Below w.heap.size w w2 → ∀ j u, ([] : List Value)[j]? = some u → w2.cell? ((⟨gR, 0, none⟩ : Addr).add j) = some u) := Lib.hid (fun w2 hb j u hj => by simp at hj)
        have C2X : Hid (∀ u ∈ ([] : List Value), u.oneCell' = true) := Lib.hid (fun u hu => by cases hu)
        have C3X : Hid ((flatS []).length + 0 ≤ maxLen) := Lib.hid (by unfold maxLen; omega)
        have C4X : Hid (((flatS []).length + 0) * 32 ≤ 140737488355328) := Lib.hid (by omega)
        go_enter Try.func74, Try.ntmps74
        go_wp2_with fail
        refine (glast_nil w).mono ?_
        rintro e w1 ⟨rfl, q, rfl⟩
        have HB2 := Lib.hid (below_drewN (Below.refl w.heap.size w) q)
        go_wp2_with (at_builtin; refine wpList_append_own _ rfl _ _ 48 rfl B 43 i0 (.agg #[.int .i64 0, .int .i64 0, .int .i64 0, .int .i64 0]) 4 32 Try.underlying48 hi9 hz0 hz1 hz2 rfl (by decide) _ _ _ rfl (own_go HOWN.out HB2.out) ⟨gR, 0, none⟩ 0 cR [] rfl ?c0 ?c1 ?c2 ?c3 ?c4 ?c5 ?_)
        case c0 => exact C0X.out
        case c1 => exact C1X.out _ HB2.out
        case c2 => exact C2X.out
        case c3 => exact C3X.out
        case c4 => exact C4X.out
        case c5 => have := HB2.out.size; omega
        intro v' w4 hown' hgr hnn
        have FIN := Lib.hid (APP.out v' w4 _ (own_go HOWN.out HB2.out) (HB2.out.mono hB) (by rw [HRN.out]; first | exact hown' | (rw [show rcells [] = [] from rfl, List.append_nil, List.length_nil, Nat.add_zero]; exact hown')) hgr (by rw [HRN.out]; first | exact hnn | simpa using hnn | (constructor; (intro h; exact absurd h hnn); (rintro ⟨h1, h2⟩; first | omega | (cases h1)))) EQ.out)
        clear hown' hgr hnn
        go_wp2_with fail
        go_ret
        exact FIN.out
    · obtain ⟨gR, rfl, hg1, hg2⟩ := hRA hr0
      obtain ⟨r, hre⟩ : ∃ r, r = (rectsOf a b c).length := ⟨_, rfl⟩
      rw [← hre] at hr0 hRl hRc
      rw [← hre]
      have HRE := Lib.hid hre; clear hre
      have C0X : Hid ((rcells (rectsOf a b c)).length = r * 4) := Lib.hid (by rw [rcells_len, HRE.out])
      have C1X : Hid (∀ w2, Below w.heap.size w w2 → ∀ j u, (rcells (rectsOf a b c))[j]? = some u → w2.cell? ((⟨gR, 0, none⟩ : Addr).add j) = some u) := Lib.hid (fun w2 hb j u hj => World.ownsRow.cells (own_go HRO.out hb) rfl j u hj)
      have C2X : Hid (∀ u ∈ rcells (rectsOf a b c), u.oneCell' = true) := Lib.hid (rcells_one _)
      have C3X : Hid ((flatS []).length + r ≤ maxLen) := Lib.hid (by unfold maxLen; omega)
      have C4X : Hid (((flatS []).length + r) * 32 ≤ 140737488355328) := Lib.hid (by omega)
      clear HRR
      go_enter Try.func74, Try.ntmps74
      go_wp2_with fail
      refine (glast_nil w).mono ?_
      rintro e w1 ⟨rfl, q, rfl⟩
      have HB2 := Lib.hid (below_drewN (Below.refl w.heap.size w) q)
      go_wp2_with (at_builtin; refine wpList_append_own _ rfl _ _ 48 rfl B 43 i0 (.agg #[.int .i64 0, .int .i64 0, .int .i64 0, .int .i64 0]) 4 32 Try.underlying48 hi9 hz0 hz1 hz2 rfl (by decide) _ _ _ rfl (own_go HOWN.out HB2.out) ⟨gR, 0, none⟩ r cR (rcells (rectsOf a b c)) rfl ?c0 ?c1 ?c2 ?c3 ?c4 ?c5 ?_)
      case c0 => exact C0X.out
      case c1 => exact C1X.out _ HB2.out
      case c2 => exact C2X.out
      case c3 => exact C3X.out
      case c4 => exact C4X.out
      case c5 => have := HB2.out.size; omega
      intro v' w4 hown' hgr hnn
      have FIN := Lib.hid (APP.out v' w4 _ (own_go HOWN.out HB2.out) (HB2.out.mono hB) (by first | exact hown' | (rw [← HRE.out]; exact hown')) hgr (by rw [← HRE.out]; first | exact hnn | simpa using hnn | (constructor; (intro h; exact absurd h hnn); (rintro ⟨h1, h2⟩; first | omega | (cases h1)))) EQ.out)
      clear hown' hgr hnn
      go_wp2_with fail
      go_ret
      exact FIN.out
  · obtain ⟨T1, s, rfl⟩ : ∃ T1 s, T = T1 ++ [s] := by
      rcases List.eq_nil_or_concat T with h | ⟨T1, s, h⟩
      · exact absurd h hT
      · exact ⟨T1, s, by rw [h, List.concat_eq_append]⟩
    obtain ⟨Af, cf, rfl, hfR, hfc, hfc2, hfA, _⟩ := own_rects hF
    have hs := hg.ok.each s (by simp)
    have hp := rects_ne (x0 := s.x0) (x1 := s.x1) hs.ev hs.ne
    have eF : flatS (T1 ++ [s]) = flatS T1 ++ rectsOf s.x0 s.x1 s.t := by rw [flat_append, flat_cons]; simp [flatS]
    have hFlen : (flatS (T1 ++ [s])).length = (flatS T1).length + (rectsOf s.x0 s.x1 s.t).length := by rw [eF, List.length_append]
    have f0 : 0 < (flatS (T1 ++ [s])).length := by omega
    obtain ⟨g, rfl, hgB, hgw⟩ := hfA f0
    have HL := Lib.hid (glast_any g 0 cf (flatS (T1 ++ [s])) w (fun j hj => ((hfR.some f0).2 j hj).1) f0 (by omega) hfc hfc2)
    have HLS : Hid (∀ n, LastAt (flatS (T1 ++ [s])) n → n < (flatS (T1 ++ [s])).length → n = (flatS T1).length) := Lib.hid (fun n h1 h2 => last_slab hg.ok h1 h2)
    have HFR := Lib.hid hfR
    have HOWN := Lib.hid hF
    have hgB2 := hB2 g rfl
    have STEPN : Hid (c ≠ [] → (s.x1 = a ∧ s.t = c) → flatS (stepF (T1 ++ [s]) a b c) = flatS T1 ++ rectsOf s.x0 b c) := Lib.hid (fun h1 h2 => by
      unfold stepF
      rw [if_neg h1, show (T1 ++ [s]).getLast? = some s by simp]
      simp only []
      rw [if_pos h2, List.dropLast_concat, flat_append, flat_cons]; simp [flatS])
    have STEPA : Hid (c = [] ∨ ¬ (s.x1 = a ∧ s.t = c) → flatS (T1 ++ [s]) ++ rectsOf a b c = flatS (stepF (T1 ++ [s]) a b c)) := Lib.hid (fun h => by
      unfold stepF
      by_cases h1 : c = []
      · rw [if_pos h1, h1]; simp [rectsOf, twos]
      · rw [if_neg h1, show (T1 ++ [s]).getLast? = some s by simp]
        simp only []
        rw [if_neg (h.resolve_left h1)]
        simp [flatS])
    have HS := Lib.hid hs; have HP := Lib.hid hp; have HC := Lib.hid hc
    clear hF hfR hfA hnil hs hg hT
    have hl1 : (flatS (T1 ++ [s])).length - (flatS T1).length = (rectsOf s.x0 s.x1 s.t).length := by omega
    have HRL : Hid (RRow w (some ⟨g, (flatS T1).length * 4, none⟩) (rectsOf s.x0 s.x1 s.t)) := Lib.hid (by
      have := RRow.drop HFR.out (flatS T1).length
      rw [eF, List.drop_left, Nat.zero_add] at this; exact this)
    have HEF := Lib.hid eF; clear eF
    rcases Nat.eq_zero_or_pos (rectsOf a b c).length with hr0 | hr0
    · have C0 : Hid (c = []) := Lib.hid (by
        rcases c with _ | ⟨c0, t⟩
        · rfl
        · exfalso
          have := rects_ne (x0 := a) (x1 := b) HC.out.ev (by simp : (c0 :: t) ≠ [])
          omega)
      have EQ := Lib.hid (STEPA.out (Or.inl C0.out))
      clear STEPN STEPA HRL
      have hpl : 0 < (rectsOf s.x0 s.x1 s.t).length := HP.out
      obtain ⟨p, hpe⟩ : ∃ p, p = (rectsOf s.x0 s.x1 s.t).length := ⟨_, rfl⟩
      rw [← hpe] at hl1 hpl
      clear hpe
      have p0 : ¬ p = 0 := by omega
      have p0n : (((p : Nat) : Int) == 0) = false := by rw [beq_eq_false_iff_ne]; omega
      have p0m : (p == 0) = false := by rw [beq_eq_false_iff_ne]; omega
      have HL1 := Lib.hid hl1; clear hl1
      have HLen := Lib.hid hFlen; clear hFlen
      have hrn : rectsOf a b c = [] := List.length_eq_zero_iff.1 hr0
      have hz := HRO.out
      rw [hrn] at hz
      have HRE : Hid (0 = (rectsOf a b c).length) := Lib.hid hr0.symm
      have HRN := Lib.hid hrn
      rw [hr0] at hRl hRc
      rw [hr0]
      have hz2 : w.ownsRow B2 43 4 (.slice AR 0 cR) 0 (rcells []) := by
        have := HRO.out
        rw [hr0, hrn] at this; exact this
      clear hrn hz HRR hr0
      rcases own_zero hz2 with h | ⟨gR, cap, h, hgR, _⟩
      · obtain ⟨rfl, _, rfl⟩ : AR = none ∧ True ∧ cR = 0 := by
          injection h with h1 h2 h3; exact ⟨h1, trivial, h3⟩
        clear h hz2 HRO
        go_enter Try.func74, Try.ntmps74
        go_wp2_with fail
        refine HL.out.mono ?_
        rintro e w1 ⟨n, q, hL, hn, rfl, rfl⟩
        obtain rfl := HLS.out n hL hn
        rw [HL1.out]
        clear hL hn HL
        have HB2 := Lib.hid (below_drewN (Below.refl w.heap.size w) q)
        go_wp2_with (at_builtin; refine wpList_append_own_none rfl _ _ 48 rfl B 43 i0 4 Try.underlying48 hi9 hz1 _ _ _ rfl (own_go HOWN.out HB2.out) rfl ?_)
        have FIN := Lib.hid (APP.out _ _ _ (own_go HOWN.out HB2.out) (HB2.out.mono hB) (by rw [HRN.out]; simp only [List.length_nil, Nat.add_zero, rcells, List.flatMap_nil, List.append_nil]; exact own_go HOWN.out HB2.out) (World.grownBy.refl _ _) (by rw [HRN.out]; simp) EQ.out)
        go_wp2_with fail
        go_ret
        exact FIN.out
      · obtain ⟨rfl, _, rfl⟩ : AR = some ⟨gR, 0, none⟩ ∧ True ∧ cR = cap := by
          injection h with h1 h2 h3; exact ⟨h1, trivial, h3⟩
        clear h hz2 HRO
        have C0X : Hid (([] : List Value).length = 0 * 4) := Lib.hid rfl
        have C1X : Hid (∀ w2, Below w.heap.size w w2 → ∀ j u, ([] : List Value)[j]? = some u → w2.cell? ((⟨gR, 0, none⟩ : Addr).add j) = some u) := Lib.hid (fun w2 hb j u hj => by simp at hj)
        have C2X : Hid (∀ u ∈ ([] : List Value), u.oneCell' = true) := Lib.hid (fun u hu => by cases hu)
        have C3X : Hid ((flatS (T1 ++ [s])).length + 0 ≤ maxLen) := Lib.hid (by unfold maxLen; omega)
        have C4X : Hid (((flatS (T1 ++ [s])).length + 0) * 32 ≤ 140737488355328) := Lib.hid (by omega)
        go_enter Try.func74, Try.ntmps74
        go_wp2_with fail
        refine HL.out.mono ?_
        rintro e w1 ⟨n, q, hL, hn, rfl, rfl⟩
        obtain rfl := HLS.out n hL hn
        rw [HL1.out]
        clear hL hn HL
        have HB2 := Lib.hid (below_drewN (Below.refl w.heap.size w) q)
        go_wp2_with (at_builtin; refine wpList_append_own _ rfl _ _ 48 rfl B 43 i0 (.agg #[.int .i64 0, .int .i64 0, .int .i64 0, .int .i64 0]) 4 32 Try.underlying48 hi9 hz0 hz1 hz2 rfl (by decide) _ _ _ rfl (own_go HOWN.out HB2.out) ⟨gR, 0, none⟩ 0 cR [] rfl ?c0 ?c1 ?c2 ?c3 ?c4 ?c5 ?_)
        case c0 => exact C0X.out
        case c1 => exact C1X.out _ HB2.out
        case c2 => exact C2X.out
        case c3 => exact C3X.out
        case c4 => exact C4X.out
        case c5 => have := HB2.out.size; omega
        intro v' w4 hown' hgr hnn
        have FIN := Lib.hid (APP.out v' w4 _ (own_go HOWN.out HB2.out) (HB2.out.mono hB) (by rw [HRN.out]; first | exact hown' | (rw [show rcells [] = [] from rfl, List.append_nil, List.length_nil, Nat.add_zero]; exact hown')) hgr (by rw [HRN.out]; first | exact hnn | simpa using hnn | (constructor; (intro h; exact absurd h hnn); (rintro ⟨h1, h2⟩; first | omega | (cases h1)))) EQ.out)
        clear hown' hgr hnn
        go_wp2_with fail
        go_ret
        exact FIN.out
    · obtain ⟨gR, rfl, hg1, hg2⟩ := hRA hr0
      have hcne : Hid (c ≠ []) := Lib.hid (fun h => by rw [h] at hr0; simp [rectsOf, twos] at hr0)
      have r0 : ¬ (((rectsOf a b c).length : Nat) : Int) = 0 := by omega
      have r0' : ¬ (rectsOf a b c).length = 0 := by omega
      have r0n : ((((rectsOf a b c).length : Nat) : Int) == 0) = false := by rw [beq_eq_false_iff_ne]; omega
      have e1 : ((rectsOf s.x0 s.x1 s.t)[0]'(HP.out)).X1 = s.x1 := (rects_x (List.getElem_mem HP.out)).2
      have e2 : ((rectsOf a b c)[0]'hr0).X0 = a := (rects_x (List.getElem_mem hr0)).1
      have CB : contB (rectsOf s.x0 s.x1 s.t) (rectsOf a b c) s.x1 a = decide (s.x1 = a ∧ s.t = c) := by
        unfold contB
        rw [Bool.eq_iff_iff]
        simp only [Bool.and_eq_true, decide_eq_true_eq]
        rw [yys_rects HS.out.ev HC.out.ev]
      have hpl : 0 < (rectsOf s.x0 s.x1 s.t).length := HP.out
      have HCC : Hid (∀ w', Below w.heap.size w w' → Calls Try.prog 63 #[.slice (some ⟨g, (flatS T1).length * 4, none⟩) (rectsOf s.x0 s.x1 s.t).length (cf - (flatS T1).length), .slice (some ⟨gR, 0, none⟩) (rectsOf a b c).length cR] w' (BlIs (decide (s.x1 = a ∧ s.t = c)) w')) := Lib.hid (fun w' hb => by
        have h := gcont_any (some ⟨g, (flatS T1).length * 4, none⟩) (cf - (flatS T1).length) (some ⟨gR, 0, none⟩) cR (rectsOf s.x0 s.x1 s.t) (rectsOf a b c) w' (HRL.out.below hb) (HRR.out.below hb) (by omega) (by omega) hpl hr0
        rw [e1, e2, CB] at h
        exact h)
      clear CB e1 e2
      have hpn : ((((rectsOf s.x0 s.x1 s.t).length : Nat) : Int) == 0) = false := by rw [beq_eq_false_iff_ne]; omega
      have HLen := Lib.hid hFlen; clear hFlen
      obtain ⟨p, hpe⟩ : ∃ p, p = (rectsOf s.x0 s.x1 s.t).length := ⟨_, rfl⟩
      obtain ⟨r, hre⟩ : ∃ r, r = (rectsOf a b c).length := ⟨_, rfl⟩
      rw [← hpe, ← hre] at HCC
      rw [← hpe] at hl1 hpl
      rw [← hre] at hr0 hRl hRc
      rw [← hre]
      clear r0 r0' r0n hpn
      have r0 : ¬ r = 0 := by omega
      have r0n : (((r : Nat) : Int) == 0) = false := by rw [beq_eq_false_iff_ne]; omega
      have r0m : (r == 0) = false := by rw [beq_eq_false_iff_ne]; omega
      have p0 : ¬ p = 0 := by omega
      have p0n : (((p : Nat) : Int) == 0) = false := by rw [beq_eq_false_iff_ne]; omega
      have p0m : (p == 0) = false := by rw [beq_eq_false_iff_ne]; omega
      have HPE := Lib.hid hpe; have HRE := Lib.hid hre
      clear hpe hre
      by_cases hcont : s.x1 = a ∧ s.t = c
      · have EQ := Lib.hid (STEPN.out hcne.out hcont)
        rw [decide_eq_true hcont] at HCC
        obtain ⟨hx1, hct⟩ := hcont
        subst hct
        clear STEPN STEPA APP
        go_enter Try.func74, Try.ntmps74
        go_wp2_with fail
        refine HL.out.mono ?_
        rintro e w1 ⟨n, q, hL, hn, rfl, rfl⟩
        obtain rfl := HLS.out n hL hn
        rw [hl1]
        clear hL hn HL
        go_wp2_with fail
        refine (HCC.out _ (below_drewN (Below.refl _ _) q)).mono ?_
        rintro e w2 ⟨rfl, hb2⟩
        have HB2 := Lib.hid ((below_drewN (Below.refl w.heap.size w) q).trans hb2)
        clear hb2 HCC HRL
        have K0 : Hid (w2.ownsRow B 43 4 (.slice (some ⟨g, 0, none⟩) (flatS (T1 ++ [s])).length cf) (flatS (T1 ++ [s])).length (rcells (gK (flatS T1) s.x0 s.x1 b s.t 0)) ∧ Below B w w2) := Lib.hid ⟨by
          have := own_go HOWN.out HB2.out
          have e : gK (flatS T1) s.x0 s.x1 b s.t 0 = flatS (T1 ++ [s]) := by rw [HEF.out]; simp [gK]
          rw [e]; exact this, HB2.out.mono hB⟩
        have HR2 := Lib.hid (RRow.some (HRR.out.below HB2.out) (by rw [← HRE.out]; exact hr0))
        have hgR2 : gR < w2.heap.size := Nat.lt_of_lt_of_le hg2 HB2.out.size
        clear HRR HRO HFR HOWN HB2 HEF
        go_wp2_with fail
        go_loopw [28] (fun i wr => ∃ k : Nat, k ≤ p ∧ i = .int .i64 k ∧ Hid (wr.ownsRow B 43 4 (.slice (some ⟨g, 0, none⟩) (flatS (T1 ++ [s])).length cf) (flatS (T1 ++ [s])).length (rcells (gK (flatS T1) s.x0 s.x1 b s.t k)) ∧ Below B w wr) ∧ Hid (∀ j : Nat, wr.cell? ⟨gR, j, none⟩ = w2.cell? ⟨gR, j, none⟩)) (fun i _ => p - (intOf i).toNat)
        case atStart => exact ⟨0, Nat.zero_le _, rfl, K0, Lib.hid (fun _ => rfl)⟩
        case round =>
          clear K0
          obtain ⟨k, hk, rfl, HK, HSAME⟩ := hrel
          have hkp : k ≤ (rectsOf s.x0 s.x1 s.t).length := by rw [← HPE.out]; exact hk
          have hpR : p = (rectsOf a b s.t).length := by rw [HPE.out]; simp [rectsOf]
          have hrR : r = (rectsOf a b s.t).length := HRE.out
          by_cases hltp : k < p
          · have hlt : k < (rectsOf s.x0 s.x1 s.t).length := by rw [← HPE.out]; exact hltp
            have hkR : k < (rectsOf a b s.t).length := by omega
            have x2 := (HR2.out.2 k hkR).2.2.1
            rw [Nat.zero_add] at x2
            have x2 := (HSAME.out _).trans x2
            rw [(rects_x (List.getElem_mem hkR)).2] at x2
            obtain ⟨hn1, hn2⟩ := gK_next (flatS T1) s.x0 s.x1 b s.t k hlt
            have hset := (rcells_set (gK (flatS T1) s.x0 s.x1 b s.t k) ((flatS T1).length + k) hn1 b).1
            rw [hn2] at hset
            have hln := gK_len (flatS T1) s.x0 s.x1 b s.t k (by omega)
            have own := HK.out.1
            have hcl := own.cellAt (((flatS T1).length + k) * 4 + 2) (by have := HLen.out; omega)
            have hfz := own.frozenAt (((flatS T1).length + k) * 4 + 2)
            have hat := (rcells_at (gK (flatS T1) s.x0 s.x1 b s.t k) ((flatS T1).length + k) hn1).2.2.1
            have y2 := hcl.trans hat
            have eo : ((flatS T1).length + k) * 4 + 2 = 0 + (flatS T1).length * 4 + k * 4 + 2 := by omega
            have eo' : ((flatS T1).length + k) * 4 + 2 = (flatS T1).length * 4 + k * 4 + 2 := by omega
            generalize (gK (flatS T1) s.x0 s.x1 b s.t k)[(flatS T1).length + k].X1 = y9 at *
            obtain ⟨h8, h9⟩ := own.stored (((flatS T1).length + k) * 4 + 2) (.int .i64 b)
            have NEW : Hid ((wr.setCell ⟨g, (flatS T1).length * 4 + k * 4 + 2, none⟩ (.int .i64 b)).ownsRow B 43 4 (.slice (some ⟨g, 0, none⟩) (flatS (T1 ++ [s])).length cf) (flatS (T1 ++ [s])).length (rcells (gK (flatS T1) s.x0 s.x1 b s.t (k + 1))) ∧ Below B w (wr.setCell ⟨g, (flatS T1).length * 4 + k * 4 + 2, none⟩ (.int .i64 b))) := Lib.hid (by
              rw [← hset, ← eo']
              exact ⟨h8, HK.out.2.setCell hgB _⟩)
            have SAME : Hid (∀ j : Nat, (wr.setCell ⟨g, (flatS T1).length * 4 + k * 4 + 2, none⟩ (.int .i64 b)).cell? ⟨gR, j, none⟩ = w2.cell? ⟨gR, j, none⟩) := Lib.hid (fun j => by
              rw [← HSAME.out j]
              simp only [World.cell?]
              rw [set_other _ _ _ _ (by simp only; omega)])
            rw [eo'] at y2 hfz
            clear hset hat hcl own h8 h9 hn1 hn2 hln eo eo' HK HSAME
            have j0 : (0 : Int) ≤ (k : Int) := by omega
            have j1 : (k : Int) < (p : Int) := by omega
            have j2 : (k : Int) < (r : Int) := by omega
            clear hkp hpR hrR
            go_wp2_with fail
            go_roundw
            case rel => exact ⟨k + 1, by omega, by go_num, NEW, SAME⟩
            case measure => simp [intOf]; omega
          · have hkk : k = (rectsOf s.x0 s.x1 s.t).length := by have := HPE.out; omega
            have hkk2 : k = p := by omega
            have FIN : Hid (JoinRes B (flatS (stepF (T1 ++ [s]) a b s.t)) w (.returned (.slice (some ⟨g, 0, none⟩) (flatS (T1 ++ [s])).length cf)) wr) := Lib.hid (by
              have e : gK (flatS T1) s.x0 s.x1 b s.t (rectsOf s.x0 s.x1 s.t).length = flatS T1 ++ rectsOf s.x0 b s.t := by
                unfold gK
                rw [List.drop_length, List.append_nil, rects_map_len s.x0 s.x1 b s.t, List.take_length]
              have h1 := HK.out.1
              rw [hkk, e] at h1
              have hl : (flatS T1 ++ rectsOf s.x0 b s.t).length = (flatS (T1 ++ [s])).length := by rw [List.length_append, HLen.out, rects_map_len s.x0 s.x1 b s.t]
              exact ⟨_, rfl, by rw [EQ.out, hl]; exact h1, HK.out.2, fun h => by
                rw [EQ.out] at h
                have := congrArg List.length h
                rw [hl, List.length_nil] at this; omega⟩)
            clear HK hkk hkp hpR hrR
            subst hkk2
            go_wp2_with fail
            go_ret
            exact FIN.out
      · have EQ := Lib.hid (STEPA.out (Or.inr hcont))
        rw [decide_eq_false hcont] at HCC
        clear STEPN STEPA hcont
        have C0X : Hid ((rcells (rectsOf a b c)).length = r * 4) := Lib.hid (by rw [rcells_len, HRE.out])
        have C1X : Hid (∀ w2, Below w.heap.size w w2 → ∀ j u, (rcells (rectsOf a b c))[j]? = some u → w2.cell? ((⟨gR, 0, none⟩ : Addr).add j) = some u) := Lib.hid (fun w2 hb j u hj => World.ownsRow.cells (own_go HRO.out hb) rfl j u hj)
        have C2X : Hid (∀ u ∈ rcells (rectsOf a b c), u.oneCell' = true) := Lib.hid (rcells_one _)
        have C3X : Hid ((flatS (T1 ++ [s])).length + r ≤ maxLen) := Lib.hid (by unfold maxLen; omega)
        have C4X : Hid (((flatS (T1 ++ [s])).length + r) * 32 ≤ 140737488355328) := Lib.hid (by omega)
        have HL1 := Lib.hid hl1; clear hl1
        go_enter Try.func74, Try.ntmps74
        go_wp2_with fail
        refine HL.out.mono ?_
        rintro e w1 ⟨n, q, hL, hn, rfl, rfl⟩
        obtain rfl := HLS.out n hL hn
        rw [HL1.out]
        clear hL hn HL
        go_wp2_with fail
        refine (HCC.out _ (below_drewN (Below.refl _ _) q)).mono ?_
        rintro e w2 ⟨rfl, hb2⟩
        have HB2 := Lib.hid ((below_drewN (Below.refl w.heap.size w) q).trans hb2)
        clear hb2 HCC HRL
        go_wp2_with (at_builtin; refine wpList_append_own _ rfl _ _ 48 rfl B 43 i0 (.agg #[.int .i64 0, .int .i64 0, .int .i64 0, .int .i64 0]) 4 32 Try.underlying48 hi9 hz0 hz1 hz2 rfl (by decide) _ _ _ rfl (own_go HOWN.out HB2.out) ⟨gR, 0, none⟩ r cR (rcells (rectsOf a b c)) rfl ?c0 ?c1 ?c2 ?c3 ?c4 ?c5 ?_)
        case c0 => exact C0X.out
        case c1 => exact C1X.out _ HB2.out
        case c2 => exact C2X.out
        case c3 => exact C3X.out
        case c4 => exact C4X.out
        case c5 => have := HB2.out.size; omega
        intro v' w4 hown' hgr hnn
        have FIN := Lib.hid (APP.out v' w4 w2 (own_go HOWN.out HB2.out) (HB2.out.mono hB) (by first | exact hown' | (rw [← HRE.out]; exact hown')) hgr (by rw [← HRE.out]; first | exact hnn | simpa using hnn | (constructor; (intro h; exact absurd h hnn); (rintro ⟨h1, h2⟩; first | omega | (cases h1)))) EQ.out)
        clear hown' hgr hnn
        go_wp2_with fail
        go_ret
        exact FIN.out
end Go.Proofs.Ytdnoadngfkiabaa
