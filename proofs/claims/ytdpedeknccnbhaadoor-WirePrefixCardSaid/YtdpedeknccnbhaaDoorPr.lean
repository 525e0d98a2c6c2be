/-
  The walk of WirePrefix.
-/
import Derived.Test.YtdpedeknccnbhaaDoorI2
import Derived.Test.YtdpedeknccnbhaaDoorS
set_option linter.unusedVariables false
namespace Go.Proofs.YtdpedeknccnbhaaDoor
open Go.RowKit Go.Sort

/-- two boxes of Values, and all that was there at first, at a later world. -/
def Two (B : Nat) (v : Val) (AL : Option Addr) (cL : Nat) (AT : Option Addr) (cT : Nat) (x : Val) (BL : Option Addr) (dL : Nat) (BT : Option Addr) (dT : Nat) (w0 w : World) : Prop :=
  w.cell? ⟨B, 0, none⟩ = some (.int .i64 v.K) ∧ w.cell? ⟨B, 1, none⟩ = some (.int .i64 v.N) ∧ w.cell? ⟨B, 2, none⟩ = some (.string v.S) ∧ w.cell? ⟨B, 3, none⟩ = some (.slice AL v.L.length cL) ∧ w.cell? ⟨B, 4, none⟩ = some (.slice AT v.T.length cT) ∧
  w.cell? ⟨B + 1, 0, none⟩ = some (.int .i64 x.K) ∧ w.cell? ⟨B + 1, 1, none⟩ = some (.int .i64 x.N) ∧ w.cell? ⟨B + 1, 2, none⟩ = some (.string x.S) ∧ w.cell? ⟨B + 1, 3, none⟩ = some (.slice BL x.L.length dL) ∧ w.cell? ⟨B + 1, 4, none⟩ = some (.slice BT x.T.length dT) ∧
  B + 1 < w.heap.size ∧ Hid (Below w0.heap.size w0 w)
section
variable {B : Nat} {v : Val} {AL : Option Addr} {cL : Nat} {AT : Option Addr} {cT : Nat} {x : Val} {BL : Option Addr} {dL : Nat} {BT : Option Addr} {dT : Nat} {w0 w w' : World}
theorem Two.go (h : Two B v AL cL AT cT x BL dL BT dT w0 w) (hb : Below w.heap.size w w') : Two B v AL cL AT cT x BL dL BT dT w0 w' := by
  obtain ⟨a0, a1, a2, a3, a4, b0, b1, b2, b3, b4, hs, hB⟩ := h
  have c0 : ∀ j, w'.cell? ⟨B, j, none⟩ = w.cell? ⟨B, j, none⟩ := fun j => hb.cell (p := ⟨B, j, none⟩) (show B < _ by omega)
  have c1 : ∀ j, w'.cell? ⟨B + 1, j, none⟩ = w.cell? ⟨B + 1, j, none⟩ := fun j => hb.cell (p := ⟨B + 1, j, none⟩) hs
  exact ⟨(c0 0).trans a0, (c0 1).trans a1, (c0 2).trans a2, (c0 3).trans a3, (c0 4).trans a4, (c1 0).trans b0, (c1 1).trans b1, (c1 2).trans b2, (c1 3).trans b3, (c1 4).trans b4, Nat.lt_of_lt_of_le hs hb.size, Lib.hid (hB.out.trans (hb.mono hB.out.size))⟩
theorem Two.drewN (h : Two B v AL cL AT cT x BL dL BT dT w0 w) (n : Nat) : Two B v AL cL AT cT x BL dL BT dT w0 (w.drewN n) := h.go (below_drewN (Below.refl _ _) n)
theorem Two.alloc (h : Two B v AL cL AT cT x BL dL BT dT w0 w) (o : Obj) : Two B v AL cL AT cT x BL dL BT dT w0 (w.alloc o) := h.go ((Below.refl _ _).alloc (Nat.le_refl _) _)
theorem Two.below (h : Two B v AL cL AT cT x BL dL BT dT w0 w) : Below w0.heap.size w0 w := h.2.2.2.2.2.2.2.2.2.2.2.out
theorem Two.lt (h : Two B v AL cL AT cT x BL dL BT dT w0 w) : B + 1 < w.heap.size := h.2.2.2.2.2.2.2.2.2.2.1
end

theorem two_start (w : World) (v : Val) (AL : Option Addr) (cL : Nat) (AT : Option Addr) (cT : Nat) (x : Val) (BL : Option Addr) (dL : Nat) (BT : Option Addr) (dT : Nat) :
    Two w.heap.size v AL cL AT cT x BL dL BT dT w ((w.alloc (.cells #[.int .i64 v.K, .int .i64 v.N, .string v.S, .slice AL v.L.length cL, .slice AT v.T.length cT] 25)).alloc (.cells #[.int .i64 x.K, .int .i64 x.N, .string x.S, .slice BL x.L.length dL, .slice BT x.T.length dT] 25)) := by
  have h1 := heap_alloc_new w (.cells #[.int .i64 v.K, .int .i64 v.N, .string v.S, .slice AL v.L.length cL, .slice AT v.T.length cT] 25)
  have h2 := heap_alloc_new (w.alloc (.cells #[.int .i64 v.K, .int .i64 v.N, .string v.S, .slice AL v.L.length cL, .slice AT v.T.length cT] 25)) (.cells #[.int .i64 x.K, .int .i64 x.N, .string x.S, .slice BL x.L.length dL, .slice BT x.T.length dT] 25)
  have e1 : (w.alloc (.cells #[.int .i64 v.K, .int .i64 v.N, .string v.S, .slice AL v.L.length cL, .slice AT v.T.length cT] 25)).heap.size = w.heap.size + 1 := by simp
  rw [e1] at h2
  have h3 := (Below.heap_alloc (w.alloc (.cells #[.int .i64 v.K, .int .i64 v.N, .string v.S, .slice AL v.L.length cL, .slice AT v.T.length cT] 25)) (.cells #[.int .i64 x.K, .int .i64 x.N, .string x.S, .slice BL x.L.length dL, .slice BT x.T.length dT] 25) w.heap.size (by rw [e1]; omega)).trans h1
  exact ⟨by rw [Lib.cell_of_heap h3]; rfl, by rw [Lib.cell_of_heap h3]; rfl, by rw [Lib.cell_of_heap h3]; rfl, by rw [Lib.cell_of_heap h3]; rfl, by rw [Lib.cell_of_heap h3]; rfl,
    by rw [Lib.cell_of_heap h2]; rfl, by rw [Lib.cell_of_heap h2]; rfl, by rw [Lib.cell_of_heap h2]; rfl, by rw [Lib.cell_of_heap h2]; rfl, by rw [Lib.cell_of_heap h2]; rfl, by simp, Lib.hid (((Below.refl _ _).alloc (Nat.le_refl _) _).alloc (by simp) _)⟩

/-- no encoding is a prefix of another one of its kind: where one begins with the other, they are equal. -/
theorem enc_prefix {v x : Val} (hk : kindOf v.K = kindOf x.K) (hv : VOk v) (hx : VOk x) (sv : Small v) (sx : Small x) {r : List UInt8} (h : enc x = enc v ++ r) : r = [] := by
  have lx := enc_len sx hx
  have hlen : (enc x).length ≤ maxI := by unfold maxI; omega
  rcases kind_range v.K with k | k | k | k | k
  · have h1 := rdNum_enc k hv h
    have h2 := rdNum_enc (v := x) (rest := []) (hk ▸ k) hx (List.append_nil _).symm
    rw [h1] at h2; simp only [Option.some.injEq, Prod.mk.injEq] at h2; exact h2.2
  · have h1 := rdInt_enc k hv h
    have h2 := rdInt_enc (v := x) (rest := []) (hk ▸ k) hx (List.append_nil _).symm
    rw [h1] at h2; simp only [Option.some.injEq, Prod.mk.injEq] at h2; exact h2.2
  · have h1 := rdText_enc k h hlen
    have h2 := rdText_enc (v := x) (rest := []) (hk ▸ k) (List.append_nil _).symm hlen
    rw [h1] at h2; simp only [Option.some.injEq, Prod.mk.injEq] at h2; exact h2.2
  · have h1 := rdNums_enc k hv h hlen
    have h2 := rdNums_enc (v := x) (rest := []) (hk ▸ k) hx (List.append_nil _).symm hlen
    rw [h1] at h2; simp only [Option.some.injEq, Prod.mk.injEq] at h2; exact h2.2
  · have h1 := rdTexts_enc k hv h hlen
    have h2 := rdTexts_enc (v := x) (rest := []) (hk ▸ k) hx (List.append_nil _).symm hlen
    rw [h1] at h2; simp only [Option.some.injEq, Prod.mk.injEq] at h2; exact h2.2

theorem vals_of {w : World} {q : Nat} {v : Val} {AL : Option Addr} {cL : Nat} {AT : Option Addr} {cT : Nat} (hn : w.heap[q]? = some (.cells #[.int .i64 v.K, .int .i64 v.N, .string v.S, .slice AL v.L.length cL, .slice AT v.T.length cT] 25 (0, 0)))
    (hL : Row w AL (v.L.map (Value.int .i64))) (hT : Row w AT (v.T.map Value.string)) : Vals w (some ⟨q, 0, none⟩) [v] := fun _ => by
  refine ⟨_, _, rfl, (Array.getElem?_eq_some_iff.1 hn).1, fun j hj => ?_⟩
  obtain rfl : j = 0 := by simp at hj; omega
  exact ⟨by rw [Lib.cell_of_heap hn]; rfl, by rw [Lib.cell_of_heap hn]; rfl, by rw [Lib.cell_of_heap hn]; rfl, ⟨AL, cL, by rw [Lib.cell_of_heap hn]; rfl, hL⟩, ⟨AT, cT, by rw [Lib.cell_of_heap hn]; rfl, hT⟩⟩
theorem few_b1 (w : World) (B : Nat) (c : Nat) (v : Val) (hok : VOk v) (hv : Vals w (some ⟨B, 0, none⟩) [v]) :
    Calls Tryd.prog 10 #[.slice (some ⟨B, 0, none⟩) 1 c] w (fun e w' => e = .returned (.bool (fewB [v])) ∧ Below w.heap.size w w') :=
  (few_b _ c [v] w (by simp) (fun y hy => by obtain rfl := List.mem_singleton.1 hy; exact hok) hv).mono fun e w' ⟨he, n, hw⟩ => ⟨he, by rw [hw]; exact below_drewN (Below.refl _ _) n⟩

set_option maxRecDepth 100000 in
set_option maxHeartbeats 8000000 in
theorem prefix_walk (v : Val) (AL : Option Addr) (cL : Nat) (AT : Option Addr) (cT : Nat) (x : Val) (BL : Option Addr) (dL : Nat) (BT : Option Addr) (dT : Nat) (w : World)
    (hok : VOk v) (hL : Row w AL (v.L.map (Value.int .i64))) (hT : Row w AT (v.T.map Value.string)) (hok2 : VOk x) (hL2 : Row w BL (x.L.map (Value.int .i64))) (hT2 : Row w BT (x.T.map Value.string)) (ht : Tab w) :
    Calls Tryd.prog 7 #[.agg #[.int .i64 v.K, .int .i64 v.N, .string v.S, .slice AL v.L.length cL, .slice AT v.T.length cT], .agg #[.int .i64 x.K, .int .i64 x.N, .string x.S, .slice BL x.L.length dL, .slice BT x.T.length dT]] w
      fun e w' => e = .returned (.bool true) ∧ Below w.heap.size w w' := by
  have HL := Lib.hid hL
  have HT := Lib.hid hT
  have HO := Lib.hid hok
  have HL2 := Lib.hid hL2
  have HT2 := Lib.hid hT2
  have HO2 := Lib.hid hok2
  have HTab := Lib.hid ht
  clear hL hT hok hL2 hT2 hok2 ht
  go_enter Tryd.func7, Tryd.ntmps7
  have KB := Lib.hid (two_start w v AL cL AT cT x BL dL BT dT)
  go_wp2_with fail
  refine (small_any _ (HTab.out.on KB.out.below)).mono ?_
  rintro e w2 ⟨rfl, hb2⟩
  have K2 := Lib.hid (KB.out.go hb2)
  clear KB hb2
  go_wp2
  cases h1 : fewB [v] with
  | false =>
    have H1 := Lib.hid h1; clear h1
    obtain ⟨a0, a1, a2, a3, a4, b0, b1, b2, b3, b4, _, _⟩ := K2.out
    go_region_with (go_at_call 10; refine (few_b1 _ _ _ v HO.out ?_).mono ?_; (exact vals_of (heap_alloc_new _ _) (HL.out.below (Two.below ((K2.out.alloc _).drewN 1))) (HT.out.below (Two.below ((K2.out.alloc _).drewN 1)))); rintro e w' ⟨rfl, hb⟩; rw [H1.out])
    all_goals
      go_wp2
      go_ret
      exact ⟨rfl, (((K2.out.alloc _).drewN 1).go hb).below⟩
  | true =>
    have H1 := Lib.hid h1; clear h1
    cases h2 : fewB [x] with
    | false =>
      have H2 := Lib.hid h2; clear h2
      obtain ⟨a0, a1, a2, a3, a4, b0, b1, b2, b3, b4, _, _⟩ := K2.out
      go_region_with (first
        | (go_at_call 10; refine (few_b1 _ _ _ v HO.out ?_).mono ?_; (exact vals_of (heap_alloc_new _ _) (HL.out.below (Two.below ((K2.out.alloc _).drewN 1))) (HT.out.below (Two.below ((K2.out.alloc _).drewN 1)))); rintro e w' ⟨rfl, hb⟩; rw [H1.out]; have K3 := Lib.hid (((K2.out.alloc _).drewN 1).go hb); obtain ⟨p0, p1, p2, p3, p4, q0, q1, q2, q3, q4, _, _⟩ := K3.out)
        | (go_at_call 10; refine (few_b1 _ _ _ x HO2.out ?_).mono ?_; (exact vals_of (heap_alloc_new _ _) (HL2.out.below (Two.below (K3.out.alloc _))) (HT2.out.below (Two.below (K3.out.alloc _)))); rintro e w4 ⟨rfl, hb4⟩; rw [H2.out]))
      all_goals
        go_wp2
        go_ret
        exact ⟨rfl, ((K3.out.alloc _).go hb4).below⟩
    | true =>
      have H2 := Lib.hid h2; clear h2
      by_cases hk : kindOf x.K = kindOf v.K
      · have hkk : (kindOf v.K != kindOf x.K) = false := by rw [hk]; simp
        have HK := Lib.hid hk; clear hk
        have HS1 := Lib.hid (small_of (few_one ((fewB_iff _).1 H1.out)) HO.out)
        have HS2 := Lib.hid (small_of (few_one ((fewB_iff _).1 H2.out)) HO2.out)
        go_region_held3 (fun w' => w'.cell? ⟨w.heap.size, 0, none⟩ = some (.int .i64 v.K) ∧ w'.cell? ⟨w.heap.size, 1, none⟩ = some (.int .i64 v.N) ∧ w'.cell? ⟨w.heap.size, 2, none⟩ = some (.string v.S) ∧ w'.cell? ⟨w.heap.size, 3, none⟩ = some (.slice AL v.L.length cL) ∧ w'.cell? ⟨w.heap.size, 4, none⟩ = some (.slice AT v.T.length cT) ∧ w'.cell? ⟨w.heap.size + 1, 0, none⟩ = some (.int .i64 x.K) ∧ w'.cell? ⟨w.heap.size + 1, 1, none⟩ = some (.int .i64 x.N) ∧ w'.cell? ⟨w.heap.size + 1, 2, none⟩ = some (.string x.S) ∧ w'.cell? ⟨w.heap.size + 1, 3, none⟩ = some (.slice BL x.L.length dL) ∧ w'.cell? ⟨w.heap.size + 1, 4, none⟩ = some (.slice BT x.T.length dT) ∧ w.heap.size + 1 < w'.heap.size ∧ Hid (Below w.heap.size w w'))
          (first | exact K2.out | exact Two.drewN K2.out 1 | exact Two.go ‹_› ‹_› | exact Two.drewN ‹_› _ | exact Two.alloc ‹_› _ | assumption)
          (first
            | (go_at_call 10; refine (few_b1 _ _ _ v HO.out ?_).mono ?_; (exact vals_of (heap_alloc_new _ _) (HL.out.below (Two.below (B := w.heap.size) (v := v) (AL := AL) (cL := cL) (AT := AT) (cT := cT) (x := x) (BL := BL) (dL := dL) (BT := BT) (dT := dT) (by assumption))) (HT.out.below (Two.below (B := w.heap.size) (v := v) (AL := AL) (cL := cL) (AT := AT) (cT := cT) (x := x) (BL := BL) (dL := dL) (BT := BT) (dT := dT) (by assumption)))); rintro e w' ⟨rfl, hb⟩; rw [H1.out])
            | (go_at_call 10; refine (few_b1 _ _ _ x HO2.out ?_).mono ?_; (exact vals_of (heap_alloc_new _ _) (HL2.out.below (Two.below (B := w.heap.size) (v := v) (AL := AL) (cL := cL) (AT := AT) (cT := cT) (x := x) (BL := BL) (dL := dL) (BT := BT) (dT := dT) (by assumption))) (HT2.out.below (Two.below (B := w.heap.size) (v := v) (AL := AL) (cL := cL) (AT := AT) (cT := cT) (x := x) (BL := BL) (dL := dL) (BT := BT) (dT := dT) (by assumption)))); rintro e w' ⟨rfl, hb⟩; rw [H2.out])
            | (go_at_call 23; refine (kind_any _ _ _ _ _ ?_ _).mono ?_; (first | exact HO.out.1 | exact HO2.out.1); rintro e w' ⟨rfl, hb⟩))
        have K5 : Hid (Two w.heap.size v AL cL AT cT x BL dL BT dT w w') := Lib.hid (by assumption)
        obtain ⟨a0, a1, a2, a3, a4, b0, b1, b2, b3, b4, _, _⟩ := K5.out
        go_wp2_with fail
        refine (write_any v AL cL AT cT w' HO.out HS1.out (HL.out.below K5.out.below) (HT.out.below K5.out.below) (HTab.out.on K5.out.below)).mono ?_
        rintro e w6 ⟨s, rfl, hs, hb6⟩
        have K6 := Lib.hid (K5.out.go hb6)
        obtain ⟨a0, a1, a2, a3, a4, b0, b1, b2, b3, b4, _, _⟩ := K6.out
        have hes := enc_len HS1.out HO.out
        have hz := size_of hs
        have hsz : s.size ≤ 200000 := by omega
        have HSS := Lib.hid hs
        clear hs hz hes hb6 K5
        go_wp2_with fail
        refine (write_any x BL dL BT dT w6 HO2.out HS2.out (HL2.out.below K6.out.below) (HT2.out.below K6.out.below) (HTab.out.on K6.out.below)).mono ?_
        rintro e w7 ⟨t, rfl, hs2, hb7⟩
        have K7 := Lib.hid (K6.out.go hb7)
        obtain ⟨a0, a1, a2, a3, a4, b0, b1, b2, b3, b4, _, _⟩ := K7.out
        have hes := enc_len HS2.out HO2.out
        have hz := size_of hs2
        have htz : t.size ≤ 200000 := by omega
        have HTT := Lib.hid hs2
        clear hs2 hz hes hb7 K6
        by_cases hgt : t.size < s.size
        · have hgt' : (t.size : Int) < (s.size : Int) := by omega
          go_wp2
          go_ret
          exact ⟨rfl, K7.out.below⟩
        · have hle' : (s.size : Int) ≤ (t.size : Int) := by omega
          have hmin : min (s.size : Int) (t.size : Int) = (s.size : Int) := by omega
          by_cases hp : t.extract 0 s.size = s
          · have hst : s = t := by
              have h1 : enc x = enc v ++ (enc x).drop s.size := by
                have h2 := congrArg (fun b : ByteArray => b.data.toList) hp
                simp only [ext_take] at h2
                rw [HTT.out, HSS.out] at h2
                conv => lhs; rw [← List.take_append_drop s.size (enc x)]
                rw [h2]
              have h3 := enc_prefix HK.out.symm HO.out HO2.out HS1.out HS2.out h1
              rw [h3, List.append_nil] at h1
              exact ByteArray.ext (Array.toList_inj.1 (by rw [HSS.out, HTT.out, h1]))
            subst hst
            have hex : s.extract 0 s.size = s := hp
            have hnn : ¬ ((s.size : Int) < (s.size : Int)) := by omega
            clear hp hmin
            go_wp2_with fail
            refine (open_any s _).mono ?_
            rintro e w8 ⟨rfl, hw8⟩
            have hr8 : RdrAt 54 w7.heap.size s false w8 := by rw [hw8]; exact heap_alloc_new w7 _
            have K8 := Lib.hid (show Two w.heap.size v AL cL AT cT x BL dL BT dT w w8 from by rw [hw8]; exact K7.out.alloc _)
            have hq := K7.out.below.size
            obtain ⟨a0, a1, a2, a3, a4, b0, b1, b2, b3, b4, _, _⟩ := K8.out
            have HE := Lib.hid (equal_any w7.heap.size s [] x BL dL BT dT w w8 (by rw [HTT.out, List.append_nil]) (by omega) hr8 K8.out.below hq HO2.out HL2.out HT2.out)
            generalize w7.heap.size = q at *
            clear hw8 hr8 K7
            go_wp2_with fail
            refine HE.out.mono ?_
            rintro e w9 ⟨rfl, hA9, hg9⟩
            have b9 := K8.out.below.trans (below_of_grown hg9 K8.out.below.size hq)
            clear hA9 hg9
            go_wp2
            go_ret
            exact ⟨rfl, b9⟩
          · have hmt : (min (s.size : Int) (t.size : Int)).toNat = s.size := by omega
            have hne1 : ((t.extract 0 s.size).toList == s.toList) = false := by
              rw [beq_eq_false_iff_ne]
              intro h
              rw [Lib.toList_data, Lib.toList_data] at h
              exact hp (ByteArray.ext (Array.toList_inj.1 h))
            have hne2 : ((t.extract 0 s.size).toList != s.toList) = true := by rw [bne, hne1]; rfl
            have hle2 : ¬ ((t.size : Int) < (s.size : Int)) := by omega
            clear hp
            go_wp2
            go_ret
            exact ⟨rfl, K7.out.below⟩
      · have hne : (kindOf v.K != kindOf x.K) = true := by rw [bne_iff_ne]; exact fun e => hk e.symm
        clear hk
        go_region_held3 (fun w' => w'.cell? ⟨w.heap.size, 0, none⟩ = some (.int .i64 v.K) ∧ w'.cell? ⟨w.heap.size, 1, none⟩ = some (.int .i64 v.N) ∧ w'.cell? ⟨w.heap.size, 2, none⟩ = some (.string v.S) ∧ w'.cell? ⟨w.heap.size, 3, none⟩ = some (.slice AL v.L.length cL) ∧ w'.cell? ⟨w.heap.size, 4, none⟩ = some (.slice AT v.T.length cT) ∧ w'.cell? ⟨w.heap.size + 1, 0, none⟩ = some (.int .i64 x.K) ∧ w'.cell? ⟨w.heap.size + 1, 1, none⟩ = some (.int .i64 x.N) ∧ w'.cell? ⟨w.heap.size + 1, 2, none⟩ = some (.string x.S) ∧ w'.cell? ⟨w.heap.size + 1, 3, none⟩ = some (.slice BL x.L.length dL) ∧ w'.cell? ⟨w.heap.size + 1, 4, none⟩ = some (.slice BT x.T.length dT) ∧ w.heap.size + 1 < w'.heap.size ∧ Hid (Below w.heap.size w w'))
          (first | exact K2.out | exact Two.drewN K2.out 1 | exact Two.go ‹_› ‹_› | exact Two.drewN ‹_› _ | exact Two.alloc ‹_› _ | assumption)
          (first
            | (go_at_call 10; refine (few_b1 _ _ _ v HO.out ?_).mono ?_; (exact vals_of (heap_alloc_new _ _) (HL.out.below (Two.below (B := w.heap.size) (v := v) (AL := AL) (cL := cL) (AT := AT) (cT := cT) (x := x) (BL := BL) (dL := dL) (BT := BT) (dT := dT) (by assumption))) (HT.out.below (Two.below (B := w.heap.size) (v := v) (AL := AL) (cL := cL) (AT := AT) (cT := cT) (x := x) (BL := BL) (dL := dL) (BT := BT) (dT := dT) (by assumption)))); rintro e w' ⟨rfl, hb⟩; rw [H1.out])
            | (go_at_call 10; refine (few_b1 _ _ _ x HO2.out ?_).mono ?_; (exact vals_of (heap_alloc_new _ _) (HL2.out.below (Two.below (B := w.heap.size) (v := v) (AL := AL) (cL := cL) (AT := AT) (cT := cT) (x := x) (BL := BL) (dL := dL) (BT := BT) (dT := dT) (by assumption))) (HT2.out.below (Two.below (B := w.heap.size) (v := v) (AL := AL) (cL := cL) (AT := AT) (cT := cT) (x := x) (BL := BL) (dL := dL) (BT := BT) (dT := dT) (by assumption)))); rintro e w' ⟨rfl, hb⟩; rw [H2.out])
            | (go_at_call 23; refine (kind_any _ _ _ _ _ ?_ _).mono ?_; (first | exact HO.out.1 | exact HO2.out.1); rintro e w' ⟨rfl, hb⟩))
        go_wp2
        go_ret
        exact ⟨rfl, Two.below (v := v) (AL := AL) (cL := cL) (AT := AT) (cT := cT) (x := x) (BL := BL) (dL := dL) (BT := BT) (dT := dT) (B := w.heap.size) (by assumption)⟩

end Go.Proofs.YtdpedeknccnbhaaDoor
