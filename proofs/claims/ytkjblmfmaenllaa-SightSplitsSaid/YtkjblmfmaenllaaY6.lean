/-
  SightSplits: the walk of the law.
-/
import Derived.Test.YtkjblmfmaenllaaYt
import Derived.Test.YtkjblmfmaenllaaYo
import Derived.Test.YtkjblmfmaenllaaZ5
import Derived.Test.YtkjblmfmaenllaaBk
set_option linter.unusedVariables false
set_option maxRecDepth 100000
namespace Go.Proofs.Ytkjblmfmaenllaa
open Go.RowKit

/-- a point at a block. -/
def P3At (w : World) (b : Nat) (v : V3) : Prop := w.heap[b]? = some (.cells #[.int .i64 v.x, .int .i64 v.y, .int .i64 v.z] 24 (0, 0))
section
variable {w w' : World} {b : Nat} {v : V3}
theorem P3At.lt (h : P3At w b v) : b < w.heap.size := (Array.getElem?_eq_some_iff.1 h).1
theorem P3At.c0 (h : P3At w b v) : w.cell? ⟨b, 0, none⟩ = some (.int .i64 v.x) := by rw [Lib.cell_of_heap h]; rfl
theorem P3At.c1 (h : P3At w b v) : w.cell? ⟨b, 1, none⟩ = some (.int .i64 v.y) := by rw [Lib.cell_of_heap h]; rfl
theorem P3At.c2 (h : P3At w b v) : w.cell? ⟨b, 2, none⟩ = some (.int .i64 v.z) := by rw [Lib.cell_of_heap h]; rfl
theorem P3At.go (h : P3At w b v) (hb : Below w.heap.size w w') : P3At w' b v := (hb.block _ h.lt).trans h
end
theorem dright_b (A : Option Addr) (cap : Nat) (S : List Sl) (w : World) (h : SIn w A cap S) : Calls Try.prog 15 #[.slice A S.length cap] w (BlIs (solPB S) w) := by
  by_cases hs : SolP S
  · rw [solPB_yes hs]; exact dright_yes h hs
  · rw [solPB_no hs]; exact dright_no h hs
set_option maxHeartbeats 40000000 in
theorem splits11_walk (A : Option Addr) (cap : Nat) (S : List Sl) (p s : V3) (n k : Int) (w : World) (hl : SlRow0 w A S) (hc : S.length ≤ cap) (hs : cap ≤ 9223372036854775807) : Calls Try.prog 6 #[.slice A S.length cap, .agg #[.int .i64 p.x, .int .i64 p.y, .int .i64 p.z], .agg #[.int .i64 s.x, .int .i64 s.y, .int .i64 s.z], .int .i64 n, .int .i64 k] w (BlIs true w) := by
  have HSM := Lib.hid (fun w' => jsmall_any w')
  have HFW := Lib.hid (fun w' (hb : Below w.heap.size w w') => jfew_any A cap S w' (slrow0_below hl hb) (Nat.le_trans hc hs))
  have HV := Lib.hid (fun w' => eValid_nd p.x p.y p.z w')
  by_cases hf : Few11 S
  · rw [few11_yes hf] at HFW
    have HSI := Lib.hid (few11_in hl hc hs hf)
    have HR := Lib.hid (fun w' (hb : Below w.heap.size w w') => dright_b A cap S w' (HSI.out.below hb))
    clear hl hc hs hf
    by_cases so : SolP S
    · rw [solPB_yes so] at HR
      by_cases cn2 : n < 2
      · clear HSI HV so
        go_enter Try.func6, Try.ntmps6
        go_upto_region 1 with fail
        obtain ⟨w0, hw0⟩ : ∃ w0, w0 = (w.alloc (.cells #[.int .i64 p.x, .int .i64 p.y, .int .i64 p.z] 24)).alloc (.cells #[.int .i64 s.x, .int .i64 s.y, .int .i64 s.z] 24) := ⟨_, rfl⟩
        have HB : Hid (Below w.heap.size w w0) := Lib.hid (by rw [hw0]; exact ((Below.refl _ _).alloc (Nat.le_refl _) _).alloc (by simp) _)
        have Hp : Hid (P3At w0 w.heap.size p) := Lib.hid (by rw [hw0]; exact (heap2 w _ _).1)
        have Hs : Hid (P3At w0 (w.heap.size + 1) s) := Lib.hid (by rw [hw0]; exact (heap2 w _ _).2)
        rw [← hw0]
        clear hw0
        generalize w.heap.size + 1 = gs at *
        obtain ⟨gp, hgp⟩ : ∃ gp, gp = w.heap.size := ⟨_, rfl⟩
        rw [← hgp] at Hp
        simp only [← hgp]
        clear hgp
        have p0 := Hp.out.c0; have p1 := Hp.out.c1; have p2 := Hp.out.c2; have pl := Hp.out.lt
        have s0 := Hs.out.c0; have s1 := Hs.out.c1; have s2 := Hs.out.c2; have sl := Hs.out.lt
        go_wp2_with fail
        with_reducible refine Calls.mono (HSM.out _) ?_
        rintro e w1 ⟨rfl, hb⟩
        replace Hp := Lib.hid (Hp.out.go hb)
        replace Hs := Lib.hid (Hs.out.go hb)
        replace HB := Lib.hid (HB.out.trans (hb.mono HB.out.size))
        clear hb HSM
        clear p0 p1 p2 pl s0 s1 s2 sl
        have p0 := Hp.out.c0; have p1 := Hp.out.c1; have p2 := Hp.out.c2; have pl := Hp.out.lt
        have s0 := Hs.out.c0; have s1 := Hs.out.c1; have s2 := Hs.out.c2; have sl := Hs.out.lt
        go_wp2_with fail
        with_reducible refine Calls.mono (HFW.out _ HB.out) ?_
        rintro e w2 ⟨rfl, hb⟩
        replace Hp := Lib.hid (Hp.out.go hb)
        replace Hs := Lib.hid (Hs.out.go hb)
        replace HB := Lib.hid (HB.out.trans (hb.mono HB.out.size))
        clear hb HFW
        clear p0 p1 p2 pl s0 s1 s2 sl
        have p0 := Hp.out.c0; have p1 := Hp.out.c1; have p2 := Hp.out.c2; have pl := Hp.out.lt
        have s0 := Hs.out.c0; have s1 := Hs.out.c1; have s2 := Hs.out.c2; have sl := Hs.out.lt
        go_wp2_with fail
        with_reducible refine Calls.mono (HR.out _ HB.out) ?_
        rintro e w3 ⟨rfl, hb⟩
        replace Hp := Lib.hid (Hp.out.go hb)
        replace Hs := Lib.hid (Hs.out.go hb)
        replace HB := Lib.hid (HB.out.trans (hb.mono HB.out.size))
        clear hb HR
        clear p0 p1 p2 pl s0 s1 s2 sl
        have p0 := Hp.out.c0; have p1 := Hp.out.c1; have p2 := Hp.out.c2; have pl := Hp.out.lt
        have s0 := Hs.out.c0; have s1 := Hs.out.c1; have s2 := Hs.out.c2; have sl := Hs.out.lt
        go_wp2_with fail
        go_ret
        exact ⟨rfl, HB.out⟩
      · skip
        by_cases cn40 : 40 < n
        · clear HSI HV so
          go_enter Try.func6, Try.ntmps6
          go_upto_region 1 with fail
          obtain ⟨w0, hw0⟩ : ∃ w0, w0 = (w.alloc (.cells #[.int .i64 p.x, .int .i64 p.y, .int .i64 p.z] 24)).alloc (.cells #[.int .i64 s.x, .int .i64 s.y, .int .i64 s.z] 24) := ⟨_, rfl⟩
          have HB : Hid (Below w.heap.size w w0) := Lib.hid (by rw [hw0]; exact ((Below.refl _ _).alloc (Nat.le_refl _) _).alloc (by simp) _)
          have Hp : Hid (P3At w0 w.heap.size p) := Lib.hid (by rw [hw0]; exact (heap2 w _ _).1)
          have Hs : Hid (P3At w0 (w.heap.size + 1) s) := Lib.hid (by rw [hw0]; exact (heap2 w _ _).2)
          rw [← hw0]
          clear hw0
          generalize w.heap.size + 1 = gs at *
          obtain ⟨gp, hgp⟩ : ∃ gp, gp = w.heap.size := ⟨_, rfl⟩
          rw [← hgp] at Hp
          simp only [← hgp]
          clear hgp
          have p0 := Hp.out.c0; have p1 := Hp.out.c1; have p2 := Hp.out.c2; have pl := Hp.out.lt
          have s0 := Hs.out.c0; have s1 := Hs.out.c1; have s2 := Hs.out.c2; have sl := Hs.out.lt
          go_wp2_with fail
          with_reducible refine Calls.mono (HSM.out _) ?_
          rintro e w1 ⟨rfl, hb⟩
          replace Hp := Lib.hid (Hp.out.go hb)
          replace Hs := Lib.hid (Hs.out.go hb)
          replace HB := Lib.hid (HB.out.trans (hb.mono HB.out.size))
          clear hb HSM
          clear p0 p1 p2 pl s0 s1 s2 sl
          have p0 := Hp.out.c0; have p1 := Hp.out.c1; have p2 := Hp.out.c2; have pl := Hp.out.lt
          have s0 := Hs.out.c0; have s1 := Hs.out.c1; have s2 := Hs.out.c2; have sl := Hs.out.lt
          go_wp2_with fail
          with_reducible refine Calls.mono (HFW.out _ HB.out) ?_
          rintro e w2 ⟨rfl, hb⟩
          replace Hp := Lib.hid (Hp.out.go hb)
          replace Hs := Lib.hid (Hs.out.go hb)
          replace HB := Lib.hid (HB.out.trans (hb.mono HB.out.size))
          clear hb HFW
          clear p0 p1 p2 pl s0 s1 s2 sl
          have p0 := Hp.out.c0; have p1 := Hp.out.c1; have p2 := Hp.out.c2; have pl := Hp.out.lt
          have s0 := Hs.out.c0; have s1 := Hs.out.c1; have s2 := Hs.out.c2; have sl := Hs.out.lt
          go_wp2_with fail
          with_reducible refine Calls.mono (HR.out _ HB.out) ?_
          rintro e w3 ⟨rfl, hb⟩
          replace Hp := Lib.hid (Hp.out.go hb)
          replace Hs := Lib.hid (Hs.out.go hb)
          replace HB := Lib.hid (HB.out.trans (hb.mono HB.out.size))
          clear hb HR
          clear p0 p1 p2 pl s0 s1 s2 sl
          have p0 := Hp.out.c0; have p1 := Hp.out.c1; have p2 := Hp.out.c2; have pl := Hp.out.lt
          have s0 := Hs.out.c0; have s1 := Hs.out.c1; have s2 := Hs.out.c2; have sl := Hs.out.lt
          go_wp2_with fail
          go_ret
          exact ⟨rfl, HB.out⟩
        · skip
          by_cases ck1 : k < 1
          · clear HSI HV so
            go_enter Try.func6, Try.ntmps6
            go_upto_region 1 with fail
            obtain ⟨w0, hw0⟩ : ∃ w0, w0 = (w.alloc (.cells #[.int .i64 p.x, .int .i64 p.y, .int .i64 p.z] 24)).alloc (.cells #[.int .i64 s.x, .int .i64 s.y, .int .i64 s.z] 24) := ⟨_, rfl⟩
            have HB : Hid (Below w.heap.size w w0) := Lib.hid (by rw [hw0]; exact ((Below.refl _ _).alloc (Nat.le_refl _) _).alloc (by simp) _)
            have Hp : Hid (P3At w0 w.heap.size p) := Lib.hid (by rw [hw0]; exact (heap2 w _ _).1)
            have Hs : Hid (P3At w0 (w.heap.size + 1) s) := Lib.hid (by rw [hw0]; exact (heap2 w _ _).2)
            rw [← hw0]
            clear hw0
            generalize w.heap.size + 1 = gs at *
            obtain ⟨gp, hgp⟩ : ∃ gp, gp = w.heap.size := ⟨_, rfl⟩
            rw [← hgp] at Hp
            simp only [← hgp]
            clear hgp
            have p0 := Hp.out.c0; have p1 := Hp.out.c1; have p2 := Hp.out.c2; have pl := Hp.out.lt
            have s0 := Hs.out.c0; have s1 := Hs.out.c1; have s2 := Hs.out.c2; have sl := Hs.out.lt
            go_wp2_with fail
            with_reducible refine Calls.mono (HSM.out _) ?_
            rintro e w1 ⟨rfl, hb⟩
            replace Hp := Lib.hid (Hp.out.go hb)
            replace Hs := Lib.hid (Hs.out.go hb)
            replace HB := Lib.hid (HB.out.trans (hb.mono HB.out.size))
            clear hb HSM
            clear p0 p1 p2 pl s0 s1 s2 sl
            have p0 := Hp.out.c0; have p1 := Hp.out.c1; have p2 := Hp.out.c2; have pl := Hp.out.lt
            have s0 := Hs.out.c0; have s1 := Hs.out.c1; have s2 := Hs.out.c2; have sl := Hs.out.lt
            go_wp2_with fail
            with_reducible refine Calls.mono (HFW.out _ HB.out) ?_
            rintro e w2 ⟨rfl, hb⟩
            replace Hp := Lib.hid (Hp.out.go hb)
            replace Hs := Lib.hid (Hs.out.go hb)
            replace HB := Lib.hid (HB.out.trans (hb.mono HB.out.size))
            clear hb HFW
            clear p0 p1 p2 pl s0 s1 s2 sl
            have p0 := Hp.out.c0; have p1 := Hp.out.c1; have p2 := Hp.out.c2; have pl := Hp.out.lt
            have s0 := Hs.out.c0; have s1 := Hs.out.c1; have s2 := Hs.out.c2; have sl := Hs.out.lt
            go_wp2_with fail
            with_reducible refine Calls.mono (HR.out _ HB.out) ?_
            rintro e w3 ⟨rfl, hb⟩
            replace Hp := Lib.hid (Hp.out.go hb)
            replace Hs := Lib.hid (Hs.out.go hb)
            replace HB := Lib.hid (HB.out.trans (hb.mono HB.out.size))
            clear hb HR
            clear p0 p1 p2 pl s0 s1 s2 sl
            have p0 := Hp.out.c0; have p1 := Hp.out.c1; have p2 := Hp.out.c2; have pl := Hp.out.lt
            have s0 := Hs.out.c0; have s1 := Hs.out.c1; have s2 := Hs.out.c2; have sl := Hs.out.lt
            go_wp2_with fail
            go_ret
            exact ⟨rfl, HB.out⟩
          · skip
            by_cases ckn : n ≤ k
            · clear HSI HV so
              go_enter Try.func6, Try.ntmps6
              go_upto_region 1 with fail
              obtain ⟨w0, hw0⟩ : ∃ w0, w0 = (w.alloc (.cells #[.int .i64 p.x, .int .i64 p.y, .int .i64 p.z] 24)).alloc (.cells #[.int .i64 s.x, .int .i64 s.y, .int .i64 s.z] 24) := ⟨_, rfl⟩
              have HB : Hid (Below w.heap.size w w0) := Lib.hid (by rw [hw0]; exact ((Below.refl _ _).alloc (Nat.le_refl _) _).alloc (by simp) _)
              have Hp : Hid (P3At w0 w.heap.size p) := Lib.hid (by rw [hw0]; exact (heap2 w _ _).1)
              have Hs : Hid (P3At w0 (w.heap.size + 1) s) := Lib.hid (by rw [hw0]; exact (heap2 w _ _).2)
              rw [← hw0]
              clear hw0
              generalize w.heap.size + 1 = gs at *
              obtain ⟨gp, hgp⟩ : ∃ gp, gp = w.heap.size := ⟨_, rfl⟩
              rw [← hgp] at Hp
              simp only [← hgp]
              clear hgp
              have p0 := Hp.out.c0; have p1 := Hp.out.c1; have p2 := Hp.out.c2; have pl := Hp.out.lt
              have s0 := Hs.out.c0; have s1 := Hs.out.c1; have s2 := Hs.out.c2; have sl := Hs.out.lt
              go_wp2_with fail
              with_reducible refine Calls.mono (HSM.out _) ?_
              rintro e w1 ⟨rfl, hb⟩
              replace Hp := Lib.hid (Hp.out.go hb)
              replace Hs := Lib.hid (Hs.out.go hb)
              replace HB := Lib.hid (HB.out.trans (hb.mono HB.out.size))
              clear hb HSM
              clear p0 p1 p2 pl s0 s1 s2 sl
              have p0 := Hp.out.c0; have p1 := Hp.out.c1; have p2 := Hp.out.c2; have pl := Hp.out.lt
              have s0 := Hs.out.c0; have s1 := Hs.out.c1; have s2 := Hs.out.c2; have sl := Hs.out.lt
              go_wp2_with fail
              with_reducible refine Calls.mono (HFW.out _ HB.out) ?_
              rintro e w2 ⟨rfl, hb⟩
              replace Hp := Lib.hid (Hp.out.go hb)
              replace Hs := Lib.hid (Hs.out.go hb)
              replace HB := Lib.hid (HB.out.trans (hb.mono HB.out.size))
              clear hb HFW
              clear p0 p1 p2 pl s0 s1 s2 sl
              have p0 := Hp.out.c0; have p1 := Hp.out.c1; have p2 := Hp.out.c2; have pl := Hp.out.lt
              have s0 := Hs.out.c0; have s1 := Hs.out.c1; have s2 := Hs.out.c2; have sl := Hs.out.lt
              go_wp2_with fail
              with_reducible refine Calls.mono (HR.out _ HB.out) ?_
              rintro e w3 ⟨rfl, hb⟩
              replace Hp := Lib.hid (Hp.out.go hb)
              replace Hs := Lib.hid (Hs.out.go hb)
              replace HB := Lib.hid (HB.out.trans (hb.mono HB.out.size))
              clear hb HR
              clear p0 p1 p2 pl s0 s1 s2 sl
              have p0 := Hp.out.c0; have p1 := Hp.out.c1; have p2 := Hp.out.c2; have pl := Hp.out.lt
              have s0 := Hs.out.c0; have s1 := Hs.out.c1; have s2 := Hs.out.c2; have sl := Hs.out.lt
              go_wp2_with fail
              go_ret
              exact ⟨rfl, HB.out⟩
            · skip
              by_cases cxa : s.x < -1000
              · clear HSI HV so
                go_enter Try.func6, Try.ntmps6
                go_upto_region 1 with fail
                obtain ⟨w0, hw0⟩ : ∃ w0, w0 = (w.alloc (.cells #[.int .i64 p.x, .int .i64 p.y, .int .i64 p.z] 24)).alloc (.cells #[.int .i64 s.x, .int .i64 s.y, .int .i64 s.z] 24) := ⟨_, rfl⟩
                have HB : Hid (Below w.heap.size w w0) := Lib.hid (by rw [hw0]; exact ((Below.refl _ _).alloc (Nat.le_refl _) _).alloc (by simp) _)
                have Hp : Hid (P3At w0 w.heap.size p) := Lib.hid (by rw [hw0]; exact (heap2 w _ _).1)
                have Hs : Hid (P3At w0 (w.heap.size + 1) s) := Lib.hid (by rw [hw0]; exact (heap2 w _ _).2)
                rw [← hw0]
                clear hw0
                generalize w.heap.size + 1 = gs at *
                obtain ⟨gp, hgp⟩ : ∃ gp, gp = w.heap.size := ⟨_, rfl⟩
                rw [← hgp] at Hp
                simp only [← hgp]
                clear hgp
                have p0 := Hp.out.c0; have p1 := Hp.out.c1; have p2 := Hp.out.c2; have pl := Hp.out.lt
                have s0 := Hs.out.c0; have s1 := Hs.out.c1; have s2 := Hs.out.c2; have sl := Hs.out.lt
                go_wp2_with fail
                with_reducible refine Calls.mono (HSM.out _) ?_
                rintro e w1 ⟨rfl, hb⟩
                replace Hp := Lib.hid (Hp.out.go hb)
                replace Hs := Lib.hid (Hs.out.go hb)
                replace HB := Lib.hid (HB.out.trans (hb.mono HB.out.size))
                clear hb HSM
                clear p0 p1 p2 pl s0 s1 s2 sl
                have p0 := Hp.out.c0; have p1 := Hp.out.c1; have p2 := Hp.out.c2; have pl := Hp.out.lt
                have s0 := Hs.out.c0; have s1 := Hs.out.c1; have s2 := Hs.out.c2; have sl := Hs.out.lt
                go_wp2_with fail
                with_reducible refine Calls.mono (HFW.out _ HB.out) ?_
                rintro e w2 ⟨rfl, hb⟩
                replace Hp := Lib.hid (Hp.out.go hb)
                replace Hs := Lib.hid (Hs.out.go hb)
                replace HB := Lib.hid (HB.out.trans (hb.mono HB.out.size))
                clear hb HFW
                clear p0 p1 p2 pl s0 s1 s2 sl
                have p0 := Hp.out.c0; have p1 := Hp.out.c1; have p2 := Hp.out.c2; have pl := Hp.out.lt
                have s0 := Hs.out.c0; have s1 := Hs.out.c1; have s2 := Hs.out.c2; have sl := Hs.out.lt
                go_wp2_with fail
                with_reducible refine Calls.mono (HR.out _ HB.out) ?_
                rintro e w3 ⟨rfl, hb⟩
                replace Hp := Lib.hid (Hp.out.go hb)
                replace Hs := Lib.hid (Hs.out.go hb)
                replace HB := Lib.hid (HB.out.trans (hb.mono HB.out.size))
                clear hb HR
                clear p0 p1 p2 pl s0 s1 s2 sl
                have p0 := Hp.out.c0; have p1 := Hp.out.c1; have p2 := Hp.out.c2; have pl := Hp.out.lt
                have s0 := Hs.out.c0; have s1 := Hs.out.c1; have s2 := Hs.out.c2; have sl := Hs.out.lt
                go_wp2_with fail
                go_ret
                exact ⟨rfl, HB.out⟩
              · skip
                by_cases cxb : 1000 < s.x
                · clear HSI HV so
                  go_enter Try.func6, Try.ntmps6
                  go_upto_region 1 with fail
                  obtain ⟨w0, hw0⟩ : ∃ w0, w0 = (w.alloc (.cells #[.int .i64 p.x, .int .i64 p.y, .int .i64 p.z] 24)).alloc (.cells #[.int .i64 s.x, .int .i64 s.y, .int .i64 s.z] 24) := ⟨_, rfl⟩
                  have HB : Hid (Below w.heap.size w w0) := Lib.hid (by rw [hw0]; exact ((Below.refl _ _).alloc (Nat.le_refl _) _).alloc (by simp) _)
                  have Hp : Hid (P3At w0 w.heap.size p) := Lib.hid (by rw [hw0]; exact (heap2 w _ _).1)
                  have Hs : Hid (P3At w0 (w.heap.size + 1) s) := Lib.hid (by rw [hw0]; exact (heap2 w _ _).2)
                  rw [← hw0]
                  clear hw0
                  generalize w.heap.size + 1 = gs at *
                  obtain ⟨gp, hgp⟩ : ∃ gp, gp = w.heap.size := ⟨_, rfl⟩
                  rw [← hgp] at Hp
                  simp only [← hgp]
                  clear hgp
                  have p0 := Hp.out.c0; have p1 := Hp.out.c1; have p2 := Hp.out.c2; have pl := Hp.out.lt
                  have s0 := Hs.out.c0; have s1 := Hs.out.c1; have s2 := Hs.out.c2; have sl := Hs.out.lt
                  go_wp2_with fail
                  with_reducible refine Calls.mono (HSM.out _) ?_
                  rintro e w1 ⟨rfl, hb⟩
                  replace Hp := Lib.hid (Hp.out.go hb)
                  replace Hs := Lib.hid (Hs.out.go hb)
                  replace HB := Lib.hid (HB.out.trans (hb.mono HB.out.size))
                  clear hb HSM
                  clear p0 p1 p2 pl s0 s1 s2 sl
                  have p0 := Hp.out.c0; have p1 := Hp.out.c1; have p2 := Hp.out.c2; have pl := Hp.out.lt
                  have s0 := Hs.out.c0; have s1 := Hs.out.c1; have s2 := Hs.out.c2; have sl := Hs.out.lt
                  go_wp2_with fail
                  with_reducible refine Calls.mono (HFW.out _ HB.out) ?_
                  rintro e w2 ⟨rfl, hb⟩
                  replace Hp := Lib.hid (Hp.out.go hb)
                  replace Hs := Lib.hid (Hs.out.go hb)
                  replace HB := Lib.hid (HB.out.trans (hb.mono HB.out.size))
                  clear hb HFW
                  clear p0 p1 p2 pl s0 s1 s2 sl
                  have p0 := Hp.out.c0; have p1 := Hp.out.c1; have p2 := Hp.out.c2; have pl := Hp.out.lt
                  have s0 := Hs.out.c0; have s1 := Hs.out.c1; have s2 := Hs.out.c2; have sl := Hs.out.lt
                  go_wp2_with fail
                  with_reducible refine Calls.mono (HR.out _ HB.out) ?_
                  rintro e w3 ⟨rfl, hb⟩
                  replace Hp := Lib.hid (Hp.out.go hb)
                  replace Hs := Lib.hid (Hs.out.go hb)
                  replace HB := Lib.hid (HB.out.trans (hb.mono HB.out.size))
                  clear hb HR
                  clear p0 p1 p2 pl s0 s1 s2 sl
                  have p0 := Hp.out.c0; have p1 := Hp.out.c1; have p2 := Hp.out.c2; have pl := Hp.out.lt
                  have s0 := Hs.out.c0; have s1 := Hs.out.c1; have s2 := Hs.out.c2; have sl := Hs.out.lt
                  go_wp2_with fail
                  go_ret
                  exact ⟨rfl, HB.out⟩
                · skip
                  by_cases cya : s.y < -1000
                  · clear HSI HV so
                    go_enter Try.func6, Try.ntmps6
                    go_upto_region 1 with fail
                    obtain ⟨w0, hw0⟩ : ∃ w0, w0 = (w.alloc (.cells #[.int .i64 p.x, .int .i64 p.y, .int .i64 p.z] 24)).alloc (.cells #[.int .i64 s.x, .int .i64 s.y, .int .i64 s.z] 24) := ⟨_, rfl⟩
                    have HB : Hid (Below w.heap.size w w0) := Lib.hid (by rw [hw0]; exact ((Below.refl _ _).alloc (Nat.le_refl _) _).alloc (by simp) _)
                    have Hp : Hid (P3At w0 w.heap.size p) := Lib.hid (by rw [hw0]; exact (heap2 w _ _).1)
                    have Hs : Hid (P3At w0 (w.heap.size + 1) s) := Lib.hid (by rw [hw0]; exact (heap2 w _ _).2)
                    rw [← hw0]
                    clear hw0
                    generalize w.heap.size + 1 = gs at *
                    obtain ⟨gp, hgp⟩ : ∃ gp, gp = w.heap.size := ⟨_, rfl⟩
                    rw [← hgp] at Hp
                    simp only [← hgp]
                    clear hgp
                    have p0 := Hp.out.c0; have p1 := Hp.out.c1; have p2 := Hp.out.c2; have pl := Hp.out.lt
                    have s0 := Hs.out.c0; have s1 := Hs.out.c1; have s2 := Hs.out.c2; have sl := Hs.out.lt
                    go_wp2_with fail
                    with_reducible refine Calls.mono (HSM.out _) ?_
                    rintro e w1 ⟨rfl, hb⟩
                    replace Hp := Lib.hid (Hp.out.go hb)
                    replace Hs := Lib.hid (Hs.out.go hb)
                    replace HB := Lib.hid (HB.out.trans (hb.mono HB.out.size))
                    clear hb HSM
                    clear p0 p1 p2 pl s0 s1 s2 sl
                    have p0 := Hp.out.c0; have p1 := Hp.out.c1; have p2 := Hp.out.c2; have pl := Hp.out.lt
                    have s0 := Hs.out.c0; have s1 := Hs.out.c1; have s2 := Hs.out.c2; have sl := Hs.out.lt
                    go_wp2_with fail
                    with_reducible refine Calls.mono (HFW.out _ HB.out) ?_
                    rintro e w2 ⟨rfl, hb⟩
                    replace Hp := Lib.hid (Hp.out.go hb)
                    replace Hs := Lib.hid (Hs.out.go hb)
                    replace HB := Lib.hid (HB.out.trans (hb.mono HB.out.size))
                    clear hb HFW
                    clear p0 p1 p2 pl s0 s1 s2 sl
                    have p0 := Hp.out.c0; have p1 := Hp.out.c1; have p2 := Hp.out.c2; have pl := Hp.out.lt
                    have s0 := Hs.out.c0; have s1 := Hs.out.c1; have s2 := Hs.out.c2; have sl := Hs.out.lt
                    go_wp2_with fail
                    with_reducible refine Calls.mono (HR.out _ HB.out) ?_
                    rintro e w3 ⟨rfl, hb⟩
                    replace Hp := Lib.hid (Hp.out.go hb)
                    replace Hs := Lib.hid (Hs.out.go hb)
                    replace HB := Lib.hid (HB.out.trans (hb.mono HB.out.size))
                    clear hb HR
                    clear p0 p1 p2 pl s0 s1 s2 sl
                    have p0 := Hp.out.c0; have p1 := Hp.out.c1; have p2 := Hp.out.c2; have pl := Hp.out.lt
                    have s0 := Hs.out.c0; have s1 := Hs.out.c1; have s2 := Hs.out.c2; have sl := Hs.out.lt
                    go_wp2_with fail
                    go_ret
                    exact ⟨rfl, HB.out⟩
                  · skip
                    by_cases cyb : 1000 < s.y
                    · clear HSI HV so
                      go_enter Try.func6, Try.ntmps6
                      go_upto_region 1 with fail
                      obtain ⟨w0, hw0⟩ : ∃ w0, w0 = (w.alloc (.cells #[.int .i64 p.x, .int .i64 p.y, .int .i64 p.z] 24)).alloc (.cells #[.int .i64 s.x, .int .i64 s.y, .int .i64 s.z] 24) := ⟨_, rfl⟩
                      have HB : Hid (Below w.heap.size w w0) := Lib.hid (by rw [hw0]; exact ((Below.refl _ _).alloc (Nat.le_refl _) _).alloc (by simp) _)
                      have Hp : Hid (P3At w0 w.heap.size p) := Lib.hid (by rw [hw0]; exact (heap2 w _ _).1)
                      have Hs : Hid (P3At w0 (w.heap.size + 1) s) := Lib.hid (by rw [hw0]; exact (heap2 w _ _).2)
                      rw [← hw0]
                      clear hw0
                      generalize w.heap.size + 1 = gs at *
                      obtain ⟨gp, hgp⟩ : ∃ gp, gp = w.heap.size := ⟨_, rfl⟩
                      rw [← hgp] at Hp
                      simp only [← hgp]
                      clear hgp
                      have p0 := Hp.out.c0; have p1 := Hp.out.c1; have p2 := Hp.out.c2; have pl := Hp.out.lt
                      have s0 := Hs.out.c0; have s1 := Hs.out.c1; have s2 := Hs.out.c2; have sl := Hs.out.lt
                      go_wp2_with fail
                      with_reducible refine Calls.mono (HSM.out _) ?_
                      rintro e w1 ⟨rfl, hb⟩
                      replace Hp := Lib.hid (Hp.out.go hb)
                      replace Hs := Lib.hid (Hs.out.go hb)
                      replace HB := Lib.hid (HB.out.trans (hb.mono HB.out.size))
                      clear hb HSM
                      clear p0 p1 p2 pl s0 s1 s2 sl
                      have p0 := Hp.out.c0; have p1 := Hp.out.c1; have p2 := Hp.out.c2; have pl := Hp.out.lt
                      have s0 := Hs.out.c0; have s1 := Hs.out.c1; have s2 := Hs.out.c2; have sl := Hs.out.lt
                      go_wp2_with fail
                      with_reducible refine Calls.mono (HFW.out _ HB.out) ?_
                      rintro e w2 ⟨rfl, hb⟩
                      replace Hp := Lib.hid (Hp.out.go hb)
                      replace Hs := Lib.hid (Hs.out.go hb)
                      replace HB := Lib.hid (HB.out.trans (hb.mono HB.out.size))
                      clear hb HFW
                      clear p0 p1 p2 pl s0 s1 s2 sl
                      have p0 := Hp.out.c0; have p1 := Hp.out.c1; have p2 := Hp.out.c2; have pl := Hp.out.lt
                      have s0 := Hs.out.c0; have s1 := Hs.out.c1; have s2 := Hs.out.c2; have sl := Hs.out.lt
                      go_wp2_with fail
                      with_reducible refine Calls.mono (HR.out _ HB.out) ?_
                      rintro e w3 ⟨rfl, hb⟩
                      replace Hp := Lib.hid (Hp.out.go hb)
                      replace Hs := Lib.hid (Hs.out.go hb)
                      replace HB := Lib.hid (HB.out.trans (hb.mono HB.out.size))
                      clear hb HR
                      clear p0 p1 p2 pl s0 s1 s2 sl
                      have p0 := Hp.out.c0; have p1 := Hp.out.c1; have p2 := Hp.out.c2; have pl := Hp.out.lt
                      have s0 := Hs.out.c0; have s1 := Hs.out.c1; have s2 := Hs.out.c2; have sl := Hs.out.lt
                      go_wp2_with fail
                      go_ret
                      exact ⟨rfl, HB.out⟩
                    · skip
                      by_cases cza : s.z < -100
                      · clear HSI HV so
                        go_enter Try.func6, Try.ntmps6
                        go_upto_region 1 with fail
                        obtain ⟨w0, hw0⟩ : ∃ w0, w0 = (w.alloc (.cells #[.int .i64 p.x, .int .i64 p.y, .int .i64 p.z] 24)).alloc (.cells #[.int .i64 s.x, .int .i64 s.y, .int .i64 s.z] 24) := ⟨_, rfl⟩
                        have HB : Hid (Below w.heap.size w w0) := Lib.hid (by rw [hw0]; exact ((Below.refl _ _).alloc (Nat.le_refl _) _).alloc (by simp) _)
                        have Hp : Hid (P3At w0 w.heap.size p) := Lib.hid (by rw [hw0]; exact (heap2 w _ _).1)
                        have Hs : Hid (P3At w0 (w.heap.size + 1) s) := Lib.hid (by rw [hw0]; exact (heap2 w _ _).2)
                        rw [← hw0]
                        clear hw0
                        generalize w.heap.size + 1 = gs at *
                        obtain ⟨gp, hgp⟩ : ∃ gp, gp = w.heap.size := ⟨_, rfl⟩
                        rw [← hgp] at Hp
                        simp only [← hgp]
                        clear hgp
                        have p0 := Hp.out.c0; have p1 := Hp.out.c1; have p2 := Hp.out.c2; have pl := Hp.out.lt
                        have s0 := Hs.out.c0; have s1 := Hs.out.c1; have s2 := Hs.out.c2; have sl := Hs.out.lt
                        go_wp2_with fail
                        with_reducible refine Calls.mono (HSM.out _) ?_
                        rintro e w1 ⟨rfl, hb⟩
                        replace Hp := Lib.hid (Hp.out.go hb)
                        replace Hs := Lib.hid (Hs.out.go hb)
                        replace HB := Lib.hid (HB.out.trans (hb.mono HB.out.size))
                        clear hb HSM
                        clear p0 p1 p2 pl s0 s1 s2 sl
                        have p0 := Hp.out.c0; have p1 := Hp.out.c1; have p2 := Hp.out.c2; have pl := Hp.out.lt
                        have s0 := Hs.out.c0; have s1 := Hs.out.c1; have s2 := Hs.out.c2; have sl := Hs.out.lt
                        go_wp2_with fail
                        with_reducible refine Calls.mono (HFW.out _ HB.out) ?_
                        rintro e w2 ⟨rfl, hb⟩
                        replace Hp := Lib.hid (Hp.out.go hb)
                        replace Hs := Lib.hid (Hs.out.go hb)
                        replace HB := Lib.hid (HB.out.trans (hb.mono HB.out.size))
                        clear hb HFW
                        clear p0 p1 p2 pl s0 s1 s2 sl
                        have p0 := Hp.out.c0; have p1 := Hp.out.c1; have p2 := Hp.out.c2; have pl := Hp.out.lt
                        have s0 := Hs.out.c0; have s1 := Hs.out.c1; have s2 := Hs.out.c2; have sl := Hs.out.lt
                        go_wp2_with fail
                        with_reducible refine Calls.mono (HR.out _ HB.out) ?_
                        rintro e w3 ⟨rfl, hb⟩
                        replace Hp := Lib.hid (Hp.out.go hb)
                        replace Hs := Lib.hid (Hs.out.go hb)
                        replace HB := Lib.hid (HB.out.trans (hb.mono HB.out.size))
                        clear hb HR
                        clear p0 p1 p2 pl s0 s1 s2 sl
                        have p0 := Hp.out.c0; have p1 := Hp.out.c1; have p2 := Hp.out.c2; have pl := Hp.out.lt
                        have s0 := Hs.out.c0; have s1 := Hs.out.c1; have s2 := Hs.out.c2; have sl := Hs.out.lt
                        go_wp2_with fail
                        go_ret
                        exact ⟨rfl, HB.out⟩
                      · skip
                        by_cases czb : 100 < s.z
                        · clear HSI HV so
                          go_enter Try.func6, Try.ntmps6
                          go_upto_region 1 with fail
                          obtain ⟨w0, hw0⟩ : ∃ w0, w0 = (w.alloc (.cells #[.int .i64 p.x, .int .i64 p.y, .int .i64 p.z] 24)).alloc (.cells #[.int .i64 s.x, .int .i64 s.y, .int .i64 s.z] 24) := ⟨_, rfl⟩
                          have HB : Hid (Below w.heap.size w w0) := Lib.hid (by rw [hw0]; exact ((Below.refl _ _).alloc (Nat.le_refl _) _).alloc (by simp) _)
                          have Hp : Hid (P3At w0 w.heap.size p) := Lib.hid (by rw [hw0]; exact (heap2 w _ _).1)
                          have Hs : Hid (P3At w0 (w.heap.size + 1) s) := Lib.hid (by rw [hw0]; exact (heap2 w _ _).2)
                          rw [← hw0]
                          clear hw0
                          generalize w.heap.size + 1 = gs at *
                          obtain ⟨gp, hgp⟩ : ∃ gp, gp = w.heap.size := ⟨_, rfl⟩
                          rw [← hgp] at Hp
                          simp only [← hgp]
                          clear hgp
                          have p0 := Hp.out.c0; have p1 := Hp.out.c1; have p2 := Hp.out.c2; have pl := Hp.out.lt
                          have s0 := Hs.out.c0; have s1 := Hs.out.c1; have s2 := Hs.out.c2; have sl := Hs.out.lt
                          go_wp2_with fail
                          with_reducible refine Calls.mono (HSM.out _) ?_
                          rintro e w1 ⟨rfl, hb⟩
                          replace Hp := Lib.hid (Hp.out.go hb)
                          replace Hs := Lib.hid (Hs.out.go hb)
                          replace HB := Lib.hid (HB.out.trans (hb.mono HB.out.size))
                          clear hb HSM
                          clear p0 p1 p2 pl s0 s1 s2 sl
                          have p0 := Hp.out.c0; have p1 := Hp.out.c1; have p2 := Hp.out.c2; have pl := Hp.out.lt
                          have s0 := Hs.out.c0; have s1 := Hs.out.c1; have s2 := Hs.out.c2; have sl := Hs.out.lt
                          go_wp2_with fail
                          with_reducible refine Calls.mono (HFW.out _ HB.out) ?_
                          rintro e w2 ⟨rfl, hb⟩
                          replace Hp := Lib.hid (Hp.out.go hb)
                          replace Hs := Lib.hid (Hs.out.go hb)
                          replace HB := Lib.hid (HB.out.trans (hb.mono HB.out.size))
                          clear hb HFW
                          clear p0 p1 p2 pl s0 s1 s2 sl
                          have p0 := Hp.out.c0; have p1 := Hp.out.c1; have p2 := Hp.out.c2; have pl := Hp.out.lt
                          have s0 := Hs.out.c0; have s1 := Hs.out.c1; have s2 := Hs.out.c2; have sl := Hs.out.lt
                          go_wp2_with fail
                          with_reducible refine Calls.mono (HR.out _ HB.out) ?_
                          rintro e w3 ⟨rfl, hb⟩
                          replace Hp := Lib.hid (Hp.out.go hb)
                          replace Hs := Lib.hid (Hs.out.go hb)
                          replace HB := Lib.hid (HB.out.trans (hb.mono HB.out.size))
                          clear hb HR
                          clear p0 p1 p2 pl s0 s1 s2 sl
                          have p0 := Hp.out.c0; have p1 := Hp.out.c1; have p2 := Hp.out.c2; have pl := Hp.out.lt
                          have s0 := Hs.out.c0; have s1 := Hs.out.c1; have s2 := Hs.out.c2; have sl := Hs.out.lt
                          go_wp2_with fail
                          go_ret
                          exact ⟨rfl, HB.out⟩
                        · skip
                          by_cases cp : PtOk p
                          · skip
                            rw [show decide (PtOk ⟨p.x, p.y, p.z⟩) = true from decide_eq_true cp] at HV
                            have hmx : -40000 ≤ k * s.x ∧ k * s.x ≤ 40000 := by have := mul_rng (k := k) (a := s.x) (b := 1000) (by omega) (by omega) ⟨by omega, by omega⟩; omega
                            have hnx : -40000 ≤ n * s.x ∧ n * s.x ≤ 40000 := by have := mul_rng (k := n) (a := s.x) (b := 1000) (by omega) (by omega) ⟨by omega, by omega⟩; omega
                            have hmy : -40000 ≤ k * s.y ∧ k * s.y ≤ 40000 := by have := mul_rng (k := k) (a := s.y) (b := 1000) (by omega) (by omega) ⟨by omega, by omega⟩; omega
                            have hny : -40000 ≤ n * s.y ∧ n * s.y ≤ 40000 := by have := mul_rng (k := n) (a := s.y) (b := 1000) (by omega) (by omega) ⟨by omega, by omega⟩; omega
                            have hmz : -4000 ≤ k * s.z ∧ k * s.z ≤ 4000 := by have := mul_rng (k := k) (a := s.z) (b := 100) (by omega) (by omega) ⟨by omega, by omega⟩; omega
                            have hnz : -4000 ≤ n * s.z ∧ n * s.z ≤ 4000 := by have := mul_rng (k := n) (a := s.z) (b := 100) (by omega) (by omega) ⟨by omega, by omega⟩; omega
                            have cpp := cp
                            unfold PtOk at cpp
                            obtain ⟨kx, hkx⟩ : ∃ kx, k * s.x = kx := ⟨_, rfl⟩
                            obtain ⟨nx, hnx'⟩ : ∃ nx, n * s.x = nx := ⟨_, rfl⟩
                            obtain ⟨mx, hmx'⟩ : ∃ mx, p.x + kx = mx := ⟨_, rfl⟩
                            obtain ⟨qx, hqx⟩ : ∃ qx, p.x + nx = qx := ⟨_, rfl⟩
                            obtain ⟨ky, hky⟩ : ∃ ky, k * s.y = ky := ⟨_, rfl⟩
                            obtain ⟨ny, hny'⟩ : ∃ ny, n * s.y = ny := ⟨_, rfl⟩
                            obtain ⟨my, hmy'⟩ : ∃ my, p.y + ky = my := ⟨_, rfl⟩
                            obtain ⟨qy, hqy⟩ : ∃ qy, p.y + ny = qy := ⟨_, rfl⟩
                            obtain ⟨kz, hkz⟩ : ∃ kz, k * s.z = kz := ⟨_, rfl⟩
                            obtain ⟨nz, hnz'⟩ : ∃ nz, n * s.z = nz := ⟨_, rfl⟩
                            obtain ⟨mz, hmz'⟩ : ∃ mz, p.z + kz = mz := ⟨_, rfl⟩
                            obtain ⟨qz, hqz⟩ : ∃ qz, p.z + nz = qz := ⟨_, rfl⟩
                            rw [hkx] at hmx; rw [hnx'] at hnx
                            have t1x : IntKind.i64.wrap (k * s.x) = kx := (IntWalk.i64_in _ (by rw [hkx]; omega)).trans hkx
                            have t2x : IntKind.i64.wrap (p.x + kx) = mx := (IntWalk.i64_in _ (by omega)).trans hmx'
                            have t3x : IntKind.i64.wrap (n * s.x) = nx := (IntWalk.i64_in _ (by rw [hnx']; omega)).trans hnx'
                            have t4x : IntKind.i64.wrap (p.x + nx) = qx := (IntWalk.i64_in _ (by omega)).trans hqx
                            rw [hky] at hmy; rw [hny'] at hny
                            have t1y : IntKind.i64.wrap (k * s.y) = ky := (IntWalk.i64_in _ (by rw [hky]; omega)).trans hky
                            have t2y : IntKind.i64.wrap (p.y + ky) = my := (IntWalk.i64_in _ (by omega)).trans hmy'
                            have t3y : IntKind.i64.wrap (n * s.y) = ny := (IntWalk.i64_in _ (by rw [hny']; omega)).trans hny'
                            have t4y : IntKind.i64.wrap (p.y + ny) = qy := (IntWalk.i64_in _ (by omega)).trans hqy
                            rw [hkz] at hmz; rw [hnz'] at hnz
                            have t1z : IntKind.i64.wrap (k * s.z) = kz := (IntWalk.i64_in _ (by rw [hkz]; omega)).trans hkz
                            have t2z : IntKind.i64.wrap (p.z + kz) = mz := (IntWalk.i64_in _ (by omega)).trans hmz'
                            have t3z : IntKind.i64.wrap (n * s.z) = nz := (IntWalk.i64_in _ (by rw [hnz']; omega)).trans hnz'
                            have t4z : IntKind.i64.wrap (p.z + nz) = qz := (IntWalk.i64_in _ (by omega)).trans hqz
                            have em : stepV p s k = ⟨mx, my, mz⟩ := by unfold stepV; rw [hkx, hky, hkz, hmx', hmy', hmz']
                            have eq : stepV p s n = ⟨qx, qy, qz⟩ := by unfold stepV; rw [hnx', hny', hnz', hqx, hqy, hqz]
                            have HVQ := Lib.hid (fun w' => eValid_nd qx qy qz w')
                            have HA := Lib.hid (fun x y z w' => jat_any x y z w')
                            clear hmx hnx hkx hnx' hmx' hqx hmy hny hky hny' hmy' hqy hmz hnz hkz hnz' hmz' hqz cpp
                            by_cases cq : PtOk ⟨qx, qy, qz⟩
                            · rw [decide_eq_true cq] at HVQ
                              have HSPL : Hid (bkB S p ⟨qx, qy, qz⟩ = (bkB S p ⟨mx, my, mz⟩ || (bkB S ⟨mx, my, mz⟩ ⟨qx, qy, qz⟩ || hasGS S mx my mz))) := Lib.hid (by
                                have := splits_eq so (p := p) (s := s) (k := k) (N := n) cp (by rw [eq]; exact cq) (by omega) (by omega)
                                rw [em, eq] at this; exact this)
                              have H1 := Lib.hid (fun w' (hb : Below w.heap.size w w') => sblocked_any A cap S p ⟨mx, my, mz⟩ w' (HSI.out.below hb))
                              have H2 := Lib.hid (fun w' (hb : Below w.heap.size w w') => sblocked_any A cap S ⟨mx, my, mz⟩ ⟨qx, qy, qz⟩ w' (HSI.out.below hb))
                              have H3 := Lib.hid (fun w' (hb : Below w.heap.size w w') => bhas_any A cap S mx my mz w' (HSI.out.below hb))
                              have H4 := Lib.hid (fun w' (hb : Below w.heap.size w w') => sblocked_any A cap S p ⟨qx, qy, qz⟩ w' (HSI.out.below hb))
                              rw [HSPL.out] at H4
                              simp only at H1 H2 H3 H4
                              clear HSI so cp cq em eq HSPL
                              generalize bkB S p ⟨mx, my, mz⟩ = b1 at *
                              generalize bkB S ⟨mx, my, mz⟩ ⟨qx, qy, qz⟩ = b2 at *
                              generalize hasGS S mx my mz = hh at *
                              have eb : (hh == hh) = true := by simp
                              cases b1 with
                              | true =>
                                simp only [Bool.true_or] at H4
                                go_enter Try.func6, Try.ntmps6
                                go_upto_region 1 with fail
                                obtain ⟨w0, hw0⟩ : ∃ w0, w0 = (w.alloc (.cells #[.int .i64 p.x, .int .i64 p.y, .int .i64 p.z] 24)).alloc (.cells #[.int .i64 s.x, .int .i64 s.y, .int .i64 s.z] 24) := ⟨_, rfl⟩
                                have HB : Hid (Below w.heap.size w w0) := Lib.hid (by rw [hw0]; exact ((Below.refl _ _).alloc (Nat.le_refl _) _).alloc (by simp) _)
                                have Hp : Hid (P3At w0 w.heap.size p) := Lib.hid (by rw [hw0]; exact (heap2 w _ _).1)
                                have Hs : Hid (P3At w0 (w.heap.size + 1) s) := Lib.hid (by rw [hw0]; exact (heap2 w _ _).2)
                                rw [← hw0]
                                clear hw0
                                generalize w.heap.size + 1 = gs at *
                                obtain ⟨gp, hgp⟩ : ∃ gp, gp = w.heap.size := ⟨_, rfl⟩
                                rw [← hgp] at Hp
                                simp only [← hgp]
                                clear hgp
                                have p0 := Hp.out.c0; have p1 := Hp.out.c1; have p2 := Hp.out.c2; have pl := Hp.out.lt
                                have s0 := Hs.out.c0; have s1 := Hs.out.c1; have s2 := Hs.out.c2; have sl := Hs.out.lt
                                go_wp2_with fail
                                with_reducible refine Calls.mono (HSM.out _) ?_
                                rintro e w1 ⟨rfl, hb⟩
                                replace Hp := Lib.hid (Hp.out.go hb)
                                replace Hs := Lib.hid (Hs.out.go hb)
                                replace HB := Lib.hid (HB.out.trans (hb.mono HB.out.size))
                                clear hb HSM
                                clear p0 p1 p2 pl s0 s1 s2 sl
                                have p0 := Hp.out.c0; have p1 := Hp.out.c1; have p2 := Hp.out.c2; have pl := Hp.out.lt
                                have s0 := Hs.out.c0; have s1 := Hs.out.c1; have s2 := Hs.out.c2; have sl := Hs.out.lt
                                go_wp2_with fail
                                with_reducible refine Calls.mono (HFW.out _ HB.out) ?_
                                rintro e w2 ⟨rfl, hb⟩
                                replace Hp := Lib.hid (Hp.out.go hb)
                                replace Hs := Lib.hid (Hs.out.go hb)
                                replace HB := Lib.hid (HB.out.trans (hb.mono HB.out.size))
                                clear hb HFW
                                clear p0 p1 p2 pl s0 s1 s2 sl
                                have p0 := Hp.out.c0; have p1 := Hp.out.c1; have p2 := Hp.out.c2; have pl := Hp.out.lt
                                have s0 := Hs.out.c0; have s1 := Hs.out.c1; have s2 := Hs.out.c2; have sl := Hs.out.lt
                                go_wp2_with fail
                                with_reducible refine Calls.mono (HR.out _ HB.out) ?_
                                rintro e w3 ⟨rfl, hb⟩
                                replace Hp := Lib.hid (Hp.out.go hb)
                                replace Hs := Lib.hid (Hs.out.go hb)
                                replace HB := Lib.hid (HB.out.trans (hb.mono HB.out.size))
                                clear hb HR
                                clear p0 p1 p2 pl s0 s1 s2 sl
                                have p0 := Hp.out.c0; have p1 := Hp.out.c1; have p2 := Hp.out.c2; have pl := Hp.out.lt
                                have s0 := Hs.out.c0; have s1 := Hs.out.c1; have s2 := Hs.out.c2; have sl := Hs.out.lt
                                go_wp2_with fail
                                with_reducible refine Calls.mono (HV.out _) ?_
                                rintro e w4 ⟨rfl, hb⟩
                                replace Hp := Lib.hid (Hp.out.go hb)
                                replace Hs := Lib.hid (Hs.out.go hb)
                                replace HB := Lib.hid (HB.out.trans (hb.mono HB.out.size))
                                clear hb HV
                                clear p0 p1 p2 pl s0 s1 s2 sl
                                have p0 := Hp.out.c0; have p1 := Hp.out.c1; have p2 := Hp.out.c2; have pl := Hp.out.lt
                                have s0 := Hs.out.c0; have s1 := Hs.out.c1; have s2 := Hs.out.c2; have sl := Hs.out.lt
                                go_wp2_with fail
                                with_reducible refine Calls.mono (HA.out _ _ _ _) ?_
                                rintro e w5 ⟨rfl, hb⟩
                                replace Hp := Lib.hid (Hp.out.go hb)
                                replace Hs := Lib.hid (Hs.out.go hb)
                                replace HB := Lib.hid (HB.out.trans (hb.mono HB.out.size))
                                clear hb 
                                clear p0 p1 p2 pl s0 s1 s2 sl
                                have p0 := Hp.out.c0; have p1 := Hp.out.c1; have p2 := Hp.out.c2; have pl := Hp.out.lt
                                have s0 := Hs.out.c0; have s1 := Hs.out.c1; have s2 := Hs.out.c2; have sl := Hs.out.lt
                                go_upto_region 5 with fail
                                obtain ⟨w6, hwa⟩ : ∃ wa, wa = w5.alloc (.cells #[.int .i64 mx, .int .i64 my, .int .i64 mz] 24) := ⟨_, rfl⟩
                                have hb : Below w5.heap.size w5 w6 := by rw [hwa]; exact (Below.refl _ _).alloc (Nat.le_refl _) _
                                have Hm : Hid (P3At w6 w5.heap.size ⟨mx, my, mz⟩) := Lib.hid (by rw [hwa]; exact heap_alloc_new w5 _)
                                rw [← hwa]
                                clear hwa
                                replace Hp := Lib.hid (Hp.out.go hb)
                                replace Hs := Lib.hid (Hs.out.go hb)
                                replace HB := Lib.hid (HB.out.trans (hb.mono HB.out.size))
                                clear hb
                                clear p0 p1 p2 pl s0 s1 s2 sl
                                generalize w5.heap.size = gm at *
                                have p0 := Hp.out.c0; have p1 := Hp.out.c1; have p2 := Hp.out.c2; have pl := Hp.out.lt
                                have s0 := Hs.out.c0; have s1 := Hs.out.c1; have s2 := Hs.out.c2; have sl := Hs.out.lt
                                have m0 := Hm.out.c0; have m1 := Hm.out.c1; have m2 := Hm.out.c2; have ml := Hm.out.lt
                                go_wp2_with fail
                                with_reducible refine Calls.mono (HA.out _ _ _ _) ?_
                                rintro e w7 ⟨rfl, hb⟩
                                replace Hp := Lib.hid (Hp.out.go hb)
                                replace Hs := Lib.hid (Hs.out.go hb)
                                replace Hm := Lib.hid (Hm.out.go hb)
                                replace HB := Lib.hid (HB.out.trans (hb.mono HB.out.size))
                                clear hb HA
                                clear p0 p1 p2 pl s0 s1 s2 sl m0 m1 m2 ml
                                have p0 := Hp.out.c0; have p1 := Hp.out.c1; have p2 := Hp.out.c2; have pl := Hp.out.lt
                                have s0 := Hs.out.c0; have s1 := Hs.out.c1; have s2 := Hs.out.c2; have sl := Hs.out.lt
                                have m0 := Hm.out.c0; have m1 := Hm.out.c1; have m2 := Hm.out.c2; have ml := Hm.out.lt
                                go_upto_region 6 with fail
                                obtain ⟨w8, hwa⟩ : ∃ wa, wa = w7.alloc (.cells #[.int .i64 qx, .int .i64 qy, .int .i64 qz] 24) := ⟨_, rfl⟩
                                have hb : Below w7.heap.size w7 w8 := by rw [hwa]; exact (Below.refl _ _).alloc (Nat.le_refl _) _
                                have Hq : Hid (P3At w8 w7.heap.size ⟨qx, qy, qz⟩) := Lib.hid (by rw [hwa]; exact heap_alloc_new w7 _)
                                rw [← hwa]
                                clear hwa
                                replace Hp := Lib.hid (Hp.out.go hb)
                                replace Hs := Lib.hid (Hs.out.go hb)
                                replace Hm := Lib.hid (Hm.out.go hb)
                                replace HB := Lib.hid (HB.out.trans (hb.mono HB.out.size))
                                clear hb
                                clear p0 p1 p2 pl s0 s1 s2 sl m0 m1 m2 ml
                                generalize w7.heap.size = gq at *
                                have p0 := Hp.out.c0; have p1 := Hp.out.c1; have p2 := Hp.out.c2; have pl := Hp.out.lt
                                have s0 := Hs.out.c0; have s1 := Hs.out.c1; have s2 := Hs.out.c2; have sl := Hs.out.lt
                                have m0 := Hm.out.c0; have m1 := Hm.out.c1; have m2 := Hm.out.c2; have ml := Hm.out.lt
                                have q0 := Hq.out.c0; have q1 := Hq.out.c1; have q2 := Hq.out.c2; have ql := Hq.out.lt
                                go_wp2_with fail
                                with_reducible refine Calls.mono (HVQ.out _) ?_
                                rintro e w9 ⟨rfl, hb⟩
                                replace Hp := Lib.hid (Hp.out.go hb)
                                replace Hs := Lib.hid (Hs.out.go hb)
                                replace Hm := Lib.hid (Hm.out.go hb)
                                replace Hq := Lib.hid (Hq.out.go hb)
                                replace HB := Lib.hid (HB.out.trans (hb.mono HB.out.size))
                                clear hb HVQ
                                clear p0 p1 p2 pl s0 s1 s2 sl m0 m1 m2 ml q0 q1 q2 ql
                                have p0 := Hp.out.c0; have p1 := Hp.out.c1; have p2 := Hp.out.c2; have pl := Hp.out.lt
                                have s0 := Hs.out.c0; have s1 := Hs.out.c1; have s2 := Hs.out.c2; have sl := Hs.out.lt
                                have m0 := Hm.out.c0; have m1 := Hm.out.c1; have m2 := Hm.out.c2; have ml := Hm.out.lt
                                have q0 := Hq.out.c0; have q1 := Hq.out.c1; have q2 := Hq.out.c2; have ql := Hq.out.lt
                                go_wp2_with fail
                                with_reducible refine Calls.mono (H1.out _ HB.out) ?_
                                rintro e w10 ⟨rfl, hb⟩
                                replace Hp := Lib.hid (Hp.out.go hb)
                                replace Hs := Lib.hid (Hs.out.go hb)
                                replace Hm := Lib.hid (Hm.out.go hb)
                                replace Hq := Lib.hid (Hq.out.go hb)
                                replace HB := Lib.hid (HB.out.trans (hb.mono HB.out.size))
                                clear hb H1
                                clear p0 p1 p2 pl s0 s1 s2 sl m0 m1 m2 ml q0 q1 q2 ql
                                have p0 := Hp.out.c0; have p1 := Hp.out.c1; have p2 := Hp.out.c2; have pl := Hp.out.lt
                                have s0 := Hs.out.c0; have s1 := Hs.out.c1; have s2 := Hs.out.c2; have sl := Hs.out.lt
                                have m0 := Hm.out.c0; have m1 := Hm.out.c1; have m2 := Hm.out.c2; have ml := Hm.out.lt
                                have q0 := Hq.out.c0; have q1 := Hq.out.c1; have q2 := Hq.out.c2; have ql := Hq.out.lt
                                go_wp2_with fail
                                with_reducible refine Calls.mono (H4.out _ HB.out) ?_
                                rintro e w11 ⟨rfl, hb⟩
                                replace Hp := Lib.hid (Hp.out.go hb)
                                replace Hs := Lib.hid (Hs.out.go hb)
                                replace Hm := Lib.hid (Hm.out.go hb)
                                replace Hq := Lib.hid (Hq.out.go hb)
                                replace HB := Lib.hid (HB.out.trans (hb.mono HB.out.size))
                                clear hb H4
                                clear p0 p1 p2 pl s0 s1 s2 sl m0 m1 m2 ml q0 q1 q2 ql
                                have p0 := Hp.out.c0; have p1 := Hp.out.c1; have p2 := Hp.out.c2; have pl := Hp.out.lt
                                have s0 := Hs.out.c0; have s1 := Hs.out.c1; have s2 := Hs.out.c2; have sl := Hs.out.lt
                                have m0 := Hm.out.c0; have m1 := Hm.out.c1; have m2 := Hm.out.c2; have ml := Hm.out.lt
                                have q0 := Hq.out.c0; have q1 := Hq.out.c1; have q2 := Hq.out.c2; have ql := Hq.out.lt
                                go_wp2_with fail
                                go_ret
                                exact ⟨rfl, HB.out⟩
                              | false =>
                                simp only [Bool.false_or] at H4
                                cases b2 with
                                | true =>
                                  simp only [Bool.true_or] at H4
                                  go_enter Try.func6, Try.ntmps6
                                  go_upto_region 1 with fail
                                  obtain ⟨w0, hw0⟩ : ∃ w0, w0 = (w.alloc (.cells #[.int .i64 p.x, .int .i64 p.y, .int .i64 p.z] 24)).alloc (.cells #[.int .i64 s.x, .int .i64 s.y, .int .i64 s.z] 24) := ⟨_, rfl⟩
                                  have HB : Hid (Below w.heap.size w w0) := Lib.hid (by rw [hw0]; exact ((Below.refl _ _).alloc (Nat.le_refl _) _).alloc (by simp) _)
                                  have Hp : Hid (P3At w0 w.heap.size p) := Lib.hid (by rw [hw0]; exact (heap2 w _ _).1)
                                  have Hs : Hid (P3At w0 (w.heap.size + 1) s) := Lib.hid (by rw [hw0]; exact (heap2 w _ _).2)
                                  rw [← hw0]
                                  clear hw0
                                  generalize w.heap.size + 1 = gs at *
                                  obtain ⟨gp, hgp⟩ : ∃ gp, gp = w.heap.size := ⟨_, rfl⟩
                                  rw [← hgp] at Hp
                                  simp only [← hgp]
                                  clear hgp
                                  have p0 := Hp.out.c0; have p1 := Hp.out.c1; have p2 := Hp.out.c2; have pl := Hp.out.lt
                                  have s0 := Hs.out.c0; have s1 := Hs.out.c1; have s2 := Hs.out.c2; have sl := Hs.out.lt
                                  go_wp2_with fail
                                  with_reducible refine Calls.mono (HSM.out _) ?_
                                  rintro e w1 ⟨rfl, hb⟩
                                  replace Hp := Lib.hid (Hp.out.go hb)
                                  replace Hs := Lib.hid (Hs.out.go hb)
                                  replace HB := Lib.hid (HB.out.trans (hb.mono HB.out.size))
                                  clear hb HSM
                                  clear p0 p1 p2 pl s0 s1 s2 sl
                                  have p0 := Hp.out.c0; have p1 := Hp.out.c1; have p2 := Hp.out.c2; have pl := Hp.out.lt
                                  have s0 := Hs.out.c0; have s1 := Hs.out.c1; have s2 := Hs.out.c2; have sl := Hs.out.lt
                                  go_wp2_with fail
                                  with_reducible refine Calls.mono (HFW.out _ HB.out) ?_
                                  rintro e w2 ⟨rfl, hb⟩
                                  replace Hp := Lib.hid (Hp.out.go hb)
                                  replace Hs := Lib.hid (Hs.out.go hb)
                                  replace HB := Lib.hid (HB.out.trans (hb.mono HB.out.size))
                                  clear hb HFW
                                  clear p0 p1 p2 pl s0 s1 s2 sl
                                  have p0 := Hp.out.c0; have p1 := Hp.out.c1; have p2 := Hp.out.c2; have pl := Hp.out.lt
                                  have s0 := Hs.out.c0; have s1 := Hs.out.c1; have s2 := Hs.out.c2; have sl := Hs.out.lt
                                  go_wp2_with fail
                                  with_reducible refine Calls.mono (HR.out _ HB.out) ?_
                                  rintro e w3 ⟨rfl, hb⟩
                                  replace Hp := Lib.hid (Hp.out.go hb)
                                  replace Hs := Lib.hid (Hs.out.go hb)
                                  replace HB := Lib.hid (HB.out.trans (hb.mono HB.out.size))
                                  clear hb HR
                                  clear p0 p1 p2 pl s0 s1 s2 sl
                                  have p0 := Hp.out.c0; have p1 := Hp.out.c1; have p2 := Hp.out.c2; have pl := Hp.out.lt
                                  have s0 := Hs.out.c0; have s1 := Hs.out.c1; have s2 := Hs.out.c2; have sl := Hs.out.lt
                                  go_wp2_with fail
                                  with_reducible refine Calls.mono (HV.out _) ?_
                                  rintro e w4 ⟨rfl, hb⟩
                                  replace Hp := Lib.hid (Hp.out.go hb)
                                  replace Hs := Lib.hid (Hs.out.go hb)
                                  replace HB := Lib.hid (HB.out.trans (hb.mono HB.out.size))
                                  clear hb HV
                                  clear p0 p1 p2 pl s0 s1 s2 sl
                                  have p0 := Hp.out.c0; have p1 := Hp.out.c1; have p2 := Hp.out.c2; have pl := Hp.out.lt
                                  have s0 := Hs.out.c0; have s1 := Hs.out.c1; have s2 := Hs.out.c2; have sl := Hs.out.lt
                                  go_wp2_with fail
                                  with_reducible refine Calls.mono (HA.out _ _ _ _) ?_
                                  rintro e w5 ⟨rfl, hb⟩
                                  replace Hp := Lib.hid (Hp.out.go hb)
                                  replace Hs := Lib.hid (Hs.out.go hb)
                                  replace HB := Lib.hid (HB.out.trans (hb.mono HB.out.size))
                                  clear hb 
                                  clear p0 p1 p2 pl s0 s1 s2 sl
                                  have p0 := Hp.out.c0; have p1 := Hp.out.c1; have p2 := Hp.out.c2; have pl := Hp.out.lt
                                  have s0 := Hs.out.c0; have s1 := Hs.out.c1; have s2 := Hs.out.c2; have sl := Hs.out.lt
                                  go_upto_region 5 with fail
                                  obtain ⟨w6, hwa⟩ : ∃ wa, wa = w5.alloc (.cells #[.int .i64 mx, .int .i64 my, .int .i64 mz] 24) := ⟨_, rfl⟩
                                  have hb : Below w5.heap.size w5 w6 := by rw [hwa]; exact (Below.refl _ _).alloc (Nat.le_refl _) _
                                  have Hm : Hid (P3At w6 w5.heap.size ⟨mx, my, mz⟩) := Lib.hid (by rw [hwa]; exact heap_alloc_new w5 _)
                                  rw [← hwa]
                                  clear hwa
                                  replace Hp := Lib.hid (Hp.out.go hb)
                                  replace Hs := Lib.hid (Hs.out.go hb)
                                  replace HB := Lib.hid (HB.out.trans (hb.mono HB.out.size))
                                  clear hb
                                  clear p0 p1 p2 pl s0 s1 s2 sl
                                  generalize w5.heap.size = gm at *
                                  have p0 := Hp.out.c0; have p1 := Hp.out.c1; have p2 := Hp.out.c2; have pl := Hp.out.lt
                                  have s0 := Hs.out.c0; have s1 := Hs.out.c1; have s2 := Hs.out.c2; have sl := Hs.out.lt
                                  have m0 := Hm.out.c0; have m1 := Hm.out.c1; have m2 := Hm.out.c2; have ml := Hm.out.lt
                                  go_wp2_with fail
                                  with_reducible refine Calls.mono (HA.out _ _ _ _) ?_
                                  rintro e w7 ⟨rfl, hb⟩
                                  replace Hp := Lib.hid (Hp.out.go hb)
                                  replace Hs := Lib.hid (Hs.out.go hb)
                                  replace Hm := Lib.hid (Hm.out.go hb)
                                  replace HB := Lib.hid (HB.out.trans (hb.mono HB.out.size))
                                  clear hb HA
                                  clear p0 p1 p2 pl s0 s1 s2 sl m0 m1 m2 ml
                                  have p0 := Hp.out.c0; have p1 := Hp.out.c1; have p2 := Hp.out.c2; have pl := Hp.out.lt
                                  have s0 := Hs.out.c0; have s1 := Hs.out.c1; have s2 := Hs.out.c2; have sl := Hs.out.lt
                                  have m0 := Hm.out.c0; have m1 := Hm.out.c1; have m2 := Hm.out.c2; have ml := Hm.out.lt
                                  go_upto_region 6 with fail
                                  obtain ⟨w8, hwa⟩ : ∃ wa, wa = w7.alloc (.cells #[.int .i64 qx, .int .i64 qy, .int .i64 qz] 24) := ⟨_, rfl⟩
                                  have hb : Below w7.heap.size w7 w8 := by rw [hwa]; exact (Below.refl _ _).alloc (Nat.le_refl _) _
                                  have Hq : Hid (P3At w8 w7.heap.size ⟨qx, qy, qz⟩) := Lib.hid (by rw [hwa]; exact heap_alloc_new w7 _)
                                  rw [← hwa]
                                  clear hwa
                                  replace Hp := Lib.hid (Hp.out.go hb)
                                  replace Hs := Lib.hid (Hs.out.go hb)
                                  replace Hm := Lib.hid (Hm.out.go hb)
                                  replace HB := Lib.hid (HB.out.trans (hb.mono HB.out.size))
                                  clear hb
                                  clear p0 p1 p2 pl s0 s1 s2 sl m0 m1 m2 ml
                                  generalize w7.heap.size = gq at *
                                  have p0 := Hp.out.c0; have p1 := Hp.out.c1; have p2 := Hp.out.c2; have pl := Hp.out.lt
                                  have s0 := Hs.out.c0; have s1 := Hs.out.c1; have s2 := Hs.out.c2; have sl := Hs.out.lt
                                  have m0 := Hm.out.c0; have m1 := Hm.out.c1; have m2 := Hm.out.c2; have ml := Hm.out.lt
                                  have q0 := Hq.out.c0; have q1 := Hq.out.c1; have q2 := Hq.out.c2; have ql := Hq.out.lt
                                  go_wp2_with fail
                                  with_reducible refine Calls.mono (HVQ.out _) ?_
                                  rintro e w9 ⟨rfl, hb⟩
                                  replace Hp := Lib.hid (Hp.out.go hb)
                                  replace Hs := Lib.hid (Hs.out.go hb)
                                  replace Hm := Lib.hid (Hm.out.go hb)
                                  replace Hq := Lib.hid (Hq.out.go hb)
                                  replace HB := Lib.hid (HB.out.trans (hb.mono HB.out.size))
                                  clear hb HVQ
                                  clear p0 p1 p2 pl s0 s1 s2 sl m0 m1 m2 ml q0 q1 q2 ql
                                  have p0 := Hp.out.c0; have p1 := Hp.out.c1; have p2 := Hp.out.c2; have pl := Hp.out.lt
                                  have s0 := Hs.out.c0; have s1 := Hs.out.c1; have s2 := Hs.out.c2; have sl := Hs.out.lt
                                  have m0 := Hm.out.c0; have m1 := Hm.out.c1; have m2 := Hm.out.c2; have ml := Hm.out.lt
                                  have q0 := Hq.out.c0; have q1 := Hq.out.c1; have q2 := Hq.out.c2; have ql := Hq.out.lt
                                  go_wp2_with fail
                                  with_reducible refine Calls.mono (H1.out _ HB.out) ?_
                                  rintro e w10 ⟨rfl, hb⟩
                                  replace Hp := Lib.hid (Hp.out.go hb)
                                  replace Hs := Lib.hid (Hs.out.go hb)
                                  replace Hm := Lib.hid (Hm.out.go hb)
                                  replace Hq := Lib.hid (Hq.out.go hb)
                                  replace HB := Lib.hid (HB.out.trans (hb.mono HB.out.size))
                                  clear hb H1
                                  clear p0 p1 p2 pl s0 s1 s2 sl m0 m1 m2 ml q0 q1 q2 ql
                                  have p0 := Hp.out.c0; have p1 := Hp.out.c1; have p2 := Hp.out.c2; have pl := Hp.out.lt
                                  have s0 := Hs.out.c0; have s1 := Hs.out.c1; have s2 := Hs.out.c2; have sl := Hs.out.lt
                                  have m0 := Hm.out.c0; have m1 := Hm.out.c1; have m2 := Hm.out.c2; have ml := Hm.out.lt
                                  have q0 := Hq.out.c0; have q1 := Hq.out.c1; have q2 := Hq.out.c2; have ql := Hq.out.lt
                                  go_wp2_with fail
                                  with_reducible refine Calls.mono (H2.out _ HB.out) ?_
                                  rintro e w11 ⟨rfl, hb⟩
                                  replace Hp := Lib.hid (Hp.out.go hb)
                                  replace Hs := Lib.hid (Hs.out.go hb)
                                  replace Hm := Lib.hid (Hm.out.go hb)
                                  replace Hq := Lib.hid (Hq.out.go hb)
                                  replace HB := Lib.hid (HB.out.trans (hb.mono HB.out.size))
                                  clear hb H2
                                  clear p0 p1 p2 pl s0 s1 s2 sl m0 m1 m2 ml q0 q1 q2 ql
                                  have p0 := Hp.out.c0; have p1 := Hp.out.c1; have p2 := Hp.out.c2; have pl := Hp.out.lt
                                  have s0 := Hs.out.c0; have s1 := Hs.out.c1; have s2 := Hs.out.c2; have sl := Hs.out.lt
                                  have m0 := Hm.out.c0; have m1 := Hm.out.c1; have m2 := Hm.out.c2; have ml := Hm.out.lt
                                  have q0 := Hq.out.c0; have q1 := Hq.out.c1; have q2 := Hq.out.c2; have ql := Hq.out.lt
                                  go_wp2_with fail
                                  with_reducible refine Calls.mono (H4.out _ HB.out) ?_
                                  rintro e w12 ⟨rfl, hb⟩
                                  replace Hp := Lib.hid (Hp.out.go hb)
                                  replace Hs := Lib.hid (Hs.out.go hb)
                                  replace Hm := Lib.hid (Hm.out.go hb)
                                  replace Hq := Lib.hid (Hq.out.go hb)
                                  replace HB := Lib.hid (HB.out.trans (hb.mono HB.out.size))
                                  clear hb H4
                                  clear p0 p1 p2 pl s0 s1 s2 sl m0 m1 m2 ml q0 q1 q2 ql
                                  have p0 := Hp.out.c0; have p1 := Hp.out.c1; have p2 := Hp.out.c2; have pl := Hp.out.lt
                                  have s0 := Hs.out.c0; have s1 := Hs.out.c1; have s2 := Hs.out.c2; have sl := Hs.out.lt
                                  have m0 := Hm.out.c0; have m1 := Hm.out.c1; have m2 := Hm.out.c2; have ml := Hm.out.lt
                                  have q0 := Hq.out.c0; have q1 := Hq.out.c1; have q2 := Hq.out.c2; have ql := Hq.out.lt
                                  go_wp2_with fail
                                  go_ret
                                  exact ⟨rfl, HB.out⟩
                                | false =>
                                  simp only [Bool.false_or] at H4
                                  go_enter Try.func6, Try.ntmps6
                                  go_upto_region 1 with fail
                                  obtain ⟨w0, hw0⟩ : ∃ w0, w0 = (w.alloc (.cells #[.int .i64 p.x, .int .i64 p.y, .int .i64 p.z] 24)).alloc (.cells #[.int .i64 s.x, .int .i64 s.y, .int .i64 s.z] 24) := ⟨_, rfl⟩
                                  have HB : Hid (Below w.heap.size w w0) := Lib.hid (by rw [hw0]; exact ((Below.refl _ _).alloc (Nat.le_refl _) _).alloc (by simp) _)
                                  have Hp : Hid (P3At w0 w.heap.size p) := Lib.hid (by rw [hw0]; exact (heap2 w _ _).1)
                                  have Hs : Hid (P3At w0 (w.heap.size + 1) s) := Lib.hid (by rw [hw0]; exact (heap2 w _ _).2)
                                  rw [← hw0]
                                  clear hw0
                                  generalize w.heap.size + 1 = gs at *
                                  obtain ⟨gp, hgp⟩ : ∃ gp, gp = w.heap.size := ⟨_, rfl⟩
                                  rw [← hgp] at Hp
                                  simp only [← hgp]
                                  clear hgp
                                  have p0 := Hp.out.c0; have p1 := Hp.out.c1; have p2 := Hp.out.c2; have pl := Hp.out.lt
                                  have s0 := Hs.out.c0; have s1 := Hs.out.c1; have s2 := Hs.out.c2; have sl := Hs.out.lt
                                  go_wp2_with fail
                                  with_reducible refine Calls.mono (HSM.out _) ?_
                                  rintro e w1 ⟨rfl, hb⟩
                                  replace Hp := Lib.hid (Hp.out.go hb)
                                  replace Hs := Lib.hid (Hs.out.go hb)
                                  replace HB := Lib.hid (HB.out.trans (hb.mono HB.out.size))
                                  clear hb HSM
                                  clear p0 p1 p2 pl s0 s1 s2 sl
                                  have p0 := Hp.out.c0; have p1 := Hp.out.c1; have p2 := Hp.out.c2; have pl := Hp.out.lt
                                  have s0 := Hs.out.c0; have s1 := Hs.out.c1; have s2 := Hs.out.c2; have sl := Hs.out.lt
                                  go_wp2_with fail
                                  with_reducible refine Calls.mono (HFW.out _ HB.out) ?_
                                  rintro e w2 ⟨rfl, hb⟩
                                  replace Hp := Lib.hid (Hp.out.go hb)
                                  replace Hs := Lib.hid (Hs.out.go hb)
                                  replace HB := Lib.hid (HB.out.trans (hb.mono HB.out.size))
                                  clear hb HFW
                                  clear p0 p1 p2 pl s0 s1 s2 sl
                                  have p0 := Hp.out.c0; have p1 := Hp.out.c1; have p2 := Hp.out.c2; have pl := Hp.out.lt
                                  have s0 := Hs.out.c0; have s1 := Hs.out.c1; have s2 := Hs.out.c2; have sl := Hs.out.lt
                                  go_wp2_with fail
                                  with_reducible refine Calls.mono (HR.out _ HB.out) ?_
                                  rintro e w3 ⟨rfl, hb⟩
                                  replace Hp := Lib.hid (Hp.out.go hb)
                                  replace Hs := Lib.hid (Hs.out.go hb)
                                  replace HB := Lib.hid (HB.out.trans (hb.mono HB.out.size))
                                  clear hb HR
                                  clear p0 p1 p2 pl s0 s1 s2 sl
                                  have p0 := Hp.out.c0; have p1 := Hp.out.c1; have p2 := Hp.out.c2; have pl := Hp.out.lt
                                  have s0 := Hs.out.c0; have s1 := Hs.out.c1; have s2 := Hs.out.c2; have sl := Hs.out.lt
                                  go_wp2_with fail
                                  with_reducible refine Calls.mono (HV.out _) ?_
                                  rintro e w4 ⟨rfl, hb⟩
                                  replace Hp := Lib.hid (Hp.out.go hb)
                                  replace Hs := Lib.hid (Hs.out.go hb)
                                  replace HB := Lib.hid (HB.out.trans (hb.mono HB.out.size))
                                  clear hb HV
                                  clear p0 p1 p2 pl s0 s1 s2 sl
                                  have p0 := Hp.out.c0; have p1 := Hp.out.c1; have p2 := Hp.out.c2; have pl := Hp.out.lt
                                  have s0 := Hs.out.c0; have s1 := Hs.out.c1; have s2 := Hs.out.c2; have sl := Hs.out.lt
                                  go_wp2_with fail
                                  with_reducible refine Calls.mono (HA.out _ _ _ _) ?_
                                  rintro e w5 ⟨rfl, hb⟩
                                  replace Hp := Lib.hid (Hp.out.go hb)
                                  replace Hs := Lib.hid (Hs.out.go hb)
                                  replace HB := Lib.hid (HB.out.trans (hb.mono HB.out.size))
                                  clear hb 
                                  clear p0 p1 p2 pl s0 s1 s2 sl
                                  have p0 := Hp.out.c0; have p1 := Hp.out.c1; have p2 := Hp.out.c2; have pl := Hp.out.lt
                                  have s0 := Hs.out.c0; have s1 := Hs.out.c1; have s2 := Hs.out.c2; have sl := Hs.out.lt
                                  go_upto_region 5 with fail
                                  obtain ⟨w6, hwa⟩ : ∃ wa, wa = w5.alloc (.cells #[.int .i64 mx, .int .i64 my, .int .i64 mz] 24) := ⟨_, rfl⟩
                                  have hb : Below w5.heap.size w5 w6 := by rw [hwa]; exact (Below.refl _ _).alloc (Nat.le_refl _) _
                                  have Hm : Hid (P3At w6 w5.heap.size ⟨mx, my, mz⟩) := Lib.hid (by rw [hwa]; exact heap_alloc_new w5 _)
                                  rw [← hwa]
                                  clear hwa
                                  replace Hp := Lib.hid (Hp.out.go hb)
                                  replace Hs := Lib.hid (Hs.out.go hb)
                                  replace HB := Lib.hid (HB.out.trans (hb.mono HB.out.size))
                                  clear hb
                                  clear p0 p1 p2 pl s0 s1 s2 sl
                                  generalize w5.heap.size = gm at *
                                  have p0 := Hp.out.c0; have p1 := Hp.out.c1; have p2 := Hp.out.c2; have pl := Hp.out.lt
                                  have s0 := Hs.out.c0; have s1 := Hs.out.c1; have s2 := Hs.out.c2; have sl := Hs.out.lt
                                  have m0 := Hm.out.c0; have m1 := Hm.out.c1; have m2 := Hm.out.c2; have ml := Hm.out.lt
                                  go_wp2_with fail
                                  with_reducible refine Calls.mono (HA.out _ _ _ _) ?_
                                  rintro e w7 ⟨rfl, hb⟩
                                  replace Hp := Lib.hid (Hp.out.go hb)
                                  replace Hs := Lib.hid (Hs.out.go hb)
                                  replace Hm := Lib.hid (Hm.out.go hb)
                                  replace HB := Lib.hid (HB.out.trans (hb.mono HB.out.size))
                                  clear hb HA
                                  clear p0 p1 p2 pl s0 s1 s2 sl m0 m1 m2 ml
                                  have p0 := Hp.out.c0; have p1 := Hp.out.c1; have p2 := Hp.out.c2; have pl := Hp.out.lt
                                  have s0 := Hs.out.c0; have s1 := Hs.out.c1; have s2 := Hs.out.c2; have sl := Hs.out.lt
                                  have m0 := Hm.out.c0; have m1 := Hm.out.c1; have m2 := Hm.out.c2; have ml := Hm.out.lt
                                  go_upto_region 6 with fail
                                  obtain ⟨w8, hwa⟩ : ∃ wa, wa = w7.alloc (.cells #[.int .i64 qx, .int .i64 qy, .int .i64 qz] 24) := ⟨_, rfl⟩
                                  have hb : Below w7.heap.size w7 w8 := by rw [hwa]; exact (Below.refl _ _).alloc (Nat.le_refl _) _
                                  have Hq : Hid (P3At w8 w7.heap.size ⟨qx, qy, qz⟩) := Lib.hid (by rw [hwa]; exact heap_alloc_new w7 _)
                                  rw [← hwa]
                                  clear hwa
                                  replace Hp := Lib.hid (Hp.out.go hb)
                                  replace Hs := Lib.hid (Hs.out.go hb)
                                  replace Hm := Lib.hid (Hm.out.go hb)
                                  replace HB := Lib.hid (HB.out.trans (hb.mono HB.out.size))
                                  clear hb
                                  clear p0 p1 p2 pl s0 s1 s2 sl m0 m1 m2 ml
                                  generalize w7.heap.size = gq at *
                                  have p0 := Hp.out.c0; have p1 := Hp.out.c1; have p2 := Hp.out.c2; have pl := Hp.out.lt
                                  have s0 := Hs.out.c0; have s1 := Hs.out.c1; have s2 := Hs.out.c2; have sl := Hs.out.lt
                                  have m0 := Hm.out.c0; have m1 := Hm.out.c1; have m2 := Hm.out.c2; have ml := Hm.out.lt
                                  have q0 := Hq.out.c0; have q1 := Hq.out.c1; have q2 := Hq.out.c2; have ql := Hq.out.lt
                                  go_wp2_with fail
                                  with_reducible refine Calls.mono (HVQ.out _) ?_
                                  rintro e w9 ⟨rfl, hb⟩
                                  replace Hp := Lib.hid (Hp.out.go hb)
                                  replace Hs := Lib.hid (Hs.out.go hb)
                                  replace Hm := Lib.hid (Hm.out.go hb)
                                  replace Hq := Lib.hid (Hq.out.go hb)
                                  replace HB := Lib.hid (HB.out.trans (hb.mono HB.out.size))
                                  clear hb HVQ
                                  clear p0 p1 p2 pl s0 s1 s2 sl m0 m1 m2 ml q0 q1 q2 ql
                                  have p0 := Hp.out.c0; have p1 := Hp.out.c1; have p2 := Hp.out.c2; have pl := Hp.out.lt
                                  have s0 := Hs.out.c0; have s1 := Hs.out.c1; have s2 := Hs.out.c2; have sl := Hs.out.lt
                                  have m0 := Hm.out.c0; have m1 := Hm.out.c1; have m2 := Hm.out.c2; have ml := Hm.out.lt
                                  have q0 := Hq.out.c0; have q1 := Hq.out.c1; have q2 := Hq.out.c2; have ql := Hq.out.lt
                                  go_wp2_with fail
                                  with_reducible refine Calls.mono (H1.out _ HB.out) ?_
                                  rintro e w10 ⟨rfl, hb⟩
                                  replace Hp := Lib.hid (Hp.out.go hb)
                                  replace Hs := Lib.hid (Hs.out.go hb)
                                  replace Hm := Lib.hid (Hm.out.go hb)
                                  replace Hq := Lib.hid (Hq.out.go hb)
                                  replace HB := Lib.hid (HB.out.trans (hb.mono HB.out.size))
                                  clear hb H1
                                  clear p0 p1 p2 pl s0 s1 s2 sl m0 m1 m2 ml q0 q1 q2 ql
                                  have p0 := Hp.out.c0; have p1 := Hp.out.c1; have p2 := Hp.out.c2; have pl := Hp.out.lt
                                  have s0 := Hs.out.c0; have s1 := Hs.out.c1; have s2 := Hs.out.c2; have sl := Hs.out.lt
                                  have m0 := Hm.out.c0; have m1 := Hm.out.c1; have m2 := Hm.out.c2; have ml := Hm.out.lt
                                  have q0 := Hq.out.c0; have q1 := Hq.out.c1; have q2 := Hq.out.c2; have ql := Hq.out.lt
                                  go_wp2_with fail
                                  with_reducible refine Calls.mono (H2.out _ HB.out) ?_
                                  rintro e w11 ⟨rfl, hb⟩
                                  replace Hp := Lib.hid (Hp.out.go hb)
                                  replace Hs := Lib.hid (Hs.out.go hb)
                                  replace Hm := Lib.hid (Hm.out.go hb)
                                  replace Hq := Lib.hid (Hq.out.go hb)
                                  replace HB := Lib.hid (HB.out.trans (hb.mono HB.out.size))
                                  clear hb H2
                                  clear p0 p1 p2 pl s0 s1 s2 sl m0 m1 m2 ml q0 q1 q2 ql
                                  have p0 := Hp.out.c0; have p1 := Hp.out.c1; have p2 := Hp.out.c2; have pl := Hp.out.lt
                                  have s0 := Hs.out.c0; have s1 := Hs.out.c1; have s2 := Hs.out.c2; have sl := Hs.out.lt
                                  have m0 := Hm.out.c0; have m1 := Hm.out.c1; have m2 := Hm.out.c2; have ml := Hm.out.lt
                                  have q0 := Hq.out.c0; have q1 := Hq.out.c1; have q2 := Hq.out.c2; have ql := Hq.out.lt
                                  go_wp2_with fail
                                  with_reducible refine Calls.mono (H3.out _ HB.out) ?_
                                  rintro e w12 ⟨rfl, hb⟩
                                  replace Hp := Lib.hid (Hp.out.go hb)
                                  replace Hs := Lib.hid (Hs.out.go hb)
                                  replace Hm := Lib.hid (Hm.out.go hb)
                                  replace Hq := Lib.hid (Hq.out.go hb)
                                  replace HB := Lib.hid (HB.out.trans (hb.mono HB.out.size))
                                  clear hb H3
                                  clear p0 p1 p2 pl s0 s1 s2 sl m0 m1 m2 ml q0 q1 q2 ql
                                  have p0 := Hp.out.c0; have p1 := Hp.out.c1; have p2 := Hp.out.c2; have pl := Hp.out.lt
                                  have s0 := Hs.out.c0; have s1 := Hs.out.c1; have s2 := Hs.out.c2; have sl := Hs.out.lt
                                  have m0 := Hm.out.c0; have m1 := Hm.out.c1; have m2 := Hm.out.c2; have ml := Hm.out.lt
                                  have q0 := Hq.out.c0; have q1 := Hq.out.c1; have q2 := Hq.out.c2; have ql := Hq.out.lt
                                  go_wp2_with fail
                                  with_reducible refine Calls.mono (H4.out _ HB.out) ?_
                                  rintro e w13 ⟨rfl, hb⟩
                                  replace Hp := Lib.hid (Hp.out.go hb)
                                  replace Hs := Lib.hid (Hs.out.go hb)
                                  replace Hm := Lib.hid (Hm.out.go hb)
                                  replace Hq := Lib.hid (Hq.out.go hb)
                                  replace HB := Lib.hid (HB.out.trans (hb.mono HB.out.size))
                                  clear hb H4
                                  clear p0 p1 p2 pl s0 s1 s2 sl m0 m1 m2 ml q0 q1 q2 ql
                                  have p0 := Hp.out.c0; have p1 := Hp.out.c1; have p2 := Hp.out.c2; have pl := Hp.out.lt
                                  have s0 := Hs.out.c0; have s1 := Hs.out.c1; have s2 := Hs.out.c2; have sl := Hs.out.lt
                                  have m0 := Hm.out.c0; have m1 := Hm.out.c1; have m2 := Hm.out.c2; have ml := Hm.out.lt
                                  have q0 := Hq.out.c0; have q1 := Hq.out.c1; have q2 := Hq.out.c2; have ql := Hq.out.lt
                                  go_wp2_with fail
                                  go_ret
                                  exact ⟨rfl, HB.out⟩
                            · rw [decide_eq_false cq] at HVQ
                              clear HSI so cp cq em eq
                              go_enter Try.func6, Try.ntmps6
                              go_upto_region 1 with fail
                              obtain ⟨w0, hw0⟩ : ∃ w0, w0 = (w.alloc (.cells #[.int .i64 p.x, .int .i64 p.y, .int .i64 p.z] 24)).alloc (.cells #[.int .i64 s.x, .int .i64 s.y, .int .i64 s.z] 24) := ⟨_, rfl⟩
                              have HB : Hid (Below w.heap.size w w0) := Lib.hid (by rw [hw0]; exact ((Below.refl _ _).alloc (Nat.le_refl _) _).alloc (by simp) _)
                              have Hp : Hid (P3At w0 w.heap.size p) := Lib.hid (by rw [hw0]; exact (heap2 w _ _).1)
                              have Hs : Hid (P3At w0 (w.heap.size + 1) s) := Lib.hid (by rw [hw0]; exact (heap2 w _ _).2)
                              rw [← hw0]
                              clear hw0
                              generalize w.heap.size + 1 = gs at *
                              obtain ⟨gp, hgp⟩ : ∃ gp, gp = w.heap.size := ⟨_, rfl⟩
                              rw [← hgp] at Hp
                              simp only [← hgp]
                              clear hgp
                              have p0 := Hp.out.c0; have p1 := Hp.out.c1; have p2 := Hp.out.c2; have pl := Hp.out.lt
                              have s0 := Hs.out.c0; have s1 := Hs.out.c1; have s2 := Hs.out.c2; have sl := Hs.out.lt
                              go_wp2_with fail
                              with_reducible refine Calls.mono (HSM.out _) ?_
                              rintro e w1 ⟨rfl, hb⟩
                              replace Hp := Lib.hid (Hp.out.go hb)
                              replace Hs := Lib.hid (Hs.out.go hb)
                              replace HB := Lib.hid (HB.out.trans (hb.mono HB.out.size))
                              clear hb HSM
                              clear p0 p1 p2 pl s0 s1 s2 sl
                              have p0 := Hp.out.c0; have p1 := Hp.out.c1; have p2 := Hp.out.c2; have pl := Hp.out.lt
                              have s0 := Hs.out.c0; have s1 := Hs.out.c1; have s2 := Hs.out.c2; have sl := Hs.out.lt
                              go_wp2_with fail
                              with_reducible refine Calls.mono (HFW.out _ HB.out) ?_
                              rintro e w2 ⟨rfl, hb⟩
                              replace Hp := Lib.hid (Hp.out.go hb)
                              replace Hs := Lib.hid (Hs.out.go hb)
                              replace HB := Lib.hid (HB.out.trans (hb.mono HB.out.size))
                              clear hb HFW
                              clear p0 p1 p2 pl s0 s1 s2 sl
                              have p0 := Hp.out.c0; have p1 := Hp.out.c1; have p2 := Hp.out.c2; have pl := Hp.out.lt
                              have s0 := Hs.out.c0; have s1 := Hs.out.c1; have s2 := Hs.out.c2; have sl := Hs.out.lt
                              go_wp2_with fail
                              with_reducible refine Calls.mono (HR.out _ HB.out) ?_
                              rintro e w3 ⟨rfl, hb⟩
                              replace Hp := Lib.hid (Hp.out.go hb)
                              replace Hs := Lib.hid (Hs.out.go hb)
                              replace HB := Lib.hid (HB.out.trans (hb.mono HB.out.size))
                              clear hb HR
                              clear p0 p1 p2 pl s0 s1 s2 sl
                              have p0 := Hp.out.c0; have p1 := Hp.out.c1; have p2 := Hp.out.c2; have pl := Hp.out.lt
                              have s0 := Hs.out.c0; have s1 := Hs.out.c1; have s2 := Hs.out.c2; have sl := Hs.out.lt
                              go_wp2_with fail
                              with_reducible refine Calls.mono (HV.out _) ?_
                              rintro e w4 ⟨rfl, hb⟩
                              replace Hp := Lib.hid (Hp.out.go hb)
                              replace Hs := Lib.hid (Hs.out.go hb)
                              replace HB := Lib.hid (HB.out.trans (hb.mono HB.out.size))
                              clear hb HV
                              clear p0 p1 p2 pl s0 s1 s2 sl
                              have p0 := Hp.out.c0; have p1 := Hp.out.c1; have p2 := Hp.out.c2; have pl := Hp.out.lt
                              have s0 := Hs.out.c0; have s1 := Hs.out.c1; have s2 := Hs.out.c2; have sl := Hs.out.lt
                              go_wp2_with fail
                              with_reducible refine Calls.mono (HA.out _ _ _ _) ?_
                              rintro e w5 ⟨rfl, hb⟩
                              replace Hp := Lib.hid (Hp.out.go hb)
                              replace Hs := Lib.hid (Hs.out.go hb)
                              replace HB := Lib.hid (HB.out.trans (hb.mono HB.out.size))
                              clear hb 
                              clear p0 p1 p2 pl s0 s1 s2 sl
                              have p0 := Hp.out.c0; have p1 := Hp.out.c1; have p2 := Hp.out.c2; have pl := Hp.out.lt
                              have s0 := Hs.out.c0; have s1 := Hs.out.c1; have s2 := Hs.out.c2; have sl := Hs.out.lt
                              go_upto_region 5 with fail
                              obtain ⟨w6, hwa⟩ : ∃ wa, wa = w5.alloc (.cells #[.int .i64 mx, .int .i64 my, .int .i64 mz] 24) := ⟨_, rfl⟩
                              have hb : Below w5.heap.size w5 w6 := by rw [hwa]; exact (Below.refl _ _).alloc (Nat.le_refl _) _
                              have Hm : Hid (P3At w6 w5.heap.size ⟨mx, my, mz⟩) := Lib.hid (by rw [hwa]; exact heap_alloc_new w5 _)
                              rw [← hwa]
                              clear hwa
                              replace Hp := Lib.hid (Hp.out.go hb)
                              replace Hs := Lib.hid (Hs.out.go hb)
                              replace HB := Lib.hid (HB.out.trans (hb.mono HB.out.size))
                              clear hb
                              clear p0 p1 p2 pl s0 s1 s2 sl
                              generalize w5.heap.size = gm at *
                              have p0 := Hp.out.c0; have p1 := Hp.out.c1; have p2 := Hp.out.c2; have pl := Hp.out.lt
                              have s0 := Hs.out.c0; have s1 := Hs.out.c1; have s2 := Hs.out.c2; have sl := Hs.out.lt
                              have m0 := Hm.out.c0; have m1 := Hm.out.c1; have m2 := Hm.out.c2; have ml := Hm.out.lt
                              go_wp2_with fail
                              with_reducible refine Calls.mono (HA.out _ _ _ _) ?_
                              rintro e w7 ⟨rfl, hb⟩
                              replace Hp := Lib.hid (Hp.out.go hb)
                              replace Hs := Lib.hid (Hs.out.go hb)
                              replace Hm := Lib.hid (Hm.out.go hb)
                              replace HB := Lib.hid (HB.out.trans (hb.mono HB.out.size))
                              clear hb HA
                              clear p0 p1 p2 pl s0 s1 s2 sl m0 m1 m2 ml
                              have p0 := Hp.out.c0; have p1 := Hp.out.c1; have p2 := Hp.out.c2; have pl := Hp.out.lt
                              have s0 := Hs.out.c0; have s1 := Hs.out.c1; have s2 := Hs.out.c2; have sl := Hs.out.lt
                              have m0 := Hm.out.c0; have m1 := Hm.out.c1; have m2 := Hm.out.c2; have ml := Hm.out.lt
                              go_upto_region 6 with fail
                              obtain ⟨w8, hwa⟩ : ∃ wa, wa = w7.alloc (.cells #[.int .i64 qx, .int .i64 qy, .int .i64 qz] 24) := ⟨_, rfl⟩
                              have hb : Below w7.heap.size w7 w8 := by rw [hwa]; exact (Below.refl _ _).alloc (Nat.le_refl _) _
                              have Hq : Hid (P3At w8 w7.heap.size ⟨qx, qy, qz⟩) := Lib.hid (by rw [hwa]; exact heap_alloc_new w7 _)
                              rw [← hwa]
                              clear hwa
                              replace Hp := Lib.hid (Hp.out.go hb)
                              replace Hs := Lib.hid (Hs.out.go hb)
                              replace Hm := Lib.hid (Hm.out.go hb)
                              replace HB := Lib.hid (HB.out.trans (hb.mono HB.out.size))
                              clear hb
                              clear p0 p1 p2 pl s0 s1 s2 sl m0 m1 m2 ml
                              generalize w7.heap.size = gq at *
                              have p0 := Hp.out.c0; have p1 := Hp.out.c1; have p2 := Hp.out.c2; have pl := Hp.out.lt
                              have s0 := Hs.out.c0; have s1 := Hs.out.c1; have s2 := Hs.out.c2; have sl := Hs.out.lt
                              have m0 := Hm.out.c0; have m1 := Hm.out.c1; have m2 := Hm.out.c2; have ml := Hm.out.lt
                              have q0 := Hq.out.c0; have q1 := Hq.out.c1; have q2 := Hq.out.c2; have ql := Hq.out.lt
                              go_wp2_with fail
                              with_reducible refine Calls.mono (HVQ.out _) ?_
                              rintro e w9 ⟨rfl, hb⟩
                              replace Hp := Lib.hid (Hp.out.go hb)
                              replace Hs := Lib.hid (Hs.out.go hb)
                              replace Hm := Lib.hid (Hm.out.go hb)
                              replace Hq := Lib.hid (Hq.out.go hb)
                              replace HB := Lib.hid (HB.out.trans (hb.mono HB.out.size))
                              clear hb HVQ
                              clear p0 p1 p2 pl s0 s1 s2 sl m0 m1 m2 ml q0 q1 q2 ql
                              have p0 := Hp.out.c0; have p1 := Hp.out.c1; have p2 := Hp.out.c2; have pl := Hp.out.lt
                              have s0 := Hs.out.c0; have s1 := Hs.out.c1; have s2 := Hs.out.c2; have sl := Hs.out.lt
                              have m0 := Hm.out.c0; have m1 := Hm.out.c1; have m2 := Hm.out.c2; have ml := Hm.out.lt
                              have q0 := Hq.out.c0; have q1 := Hq.out.c1; have q2 := Hq.out.c2; have ql := Hq.out.lt
                              go_wp2_with fail
                              go_ret
                              exact ⟨rfl, HB.out⟩
                          · rw [show decide (PtOk ⟨p.x, p.y, p.z⟩) = false from decide_eq_false cp] at HV
                            clear HSI so cp
                            go_enter Try.func6, Try.ntmps6
                            go_upto_region 1 with fail
                            obtain ⟨w0, hw0⟩ : ∃ w0, w0 = (w.alloc (.cells #[.int .i64 p.x, .int .i64 p.y, .int .i64 p.z] 24)).alloc (.cells #[.int .i64 s.x, .int .i64 s.y, .int .i64 s.z] 24) := ⟨_, rfl⟩
                            have HB : Hid (Below w.heap.size w w0) := Lib.hid (by rw [hw0]; exact ((Below.refl _ _).alloc (Nat.le_refl _) _).alloc (by simp) _)
                            have Hp : Hid (P3At w0 w.heap.size p) := Lib.hid (by rw [hw0]; exact (heap2 w _ _).1)
                            have Hs : Hid (P3At w0 (w.heap.size + 1) s) := Lib.hid (by rw [hw0]; exact (heap2 w _ _).2)
                            rw [← hw0]
                            clear hw0
                            generalize w.heap.size + 1 = gs at *
                            obtain ⟨gp, hgp⟩ : ∃ gp, gp = w.heap.size := ⟨_, rfl⟩
                            rw [← hgp] at Hp
                            simp only [← hgp]
                            clear hgp
                            have p0 := Hp.out.c0; have p1 := Hp.out.c1; have p2 := Hp.out.c2; have pl := Hp.out.lt
                            have s0 := Hs.out.c0; have s1 := Hs.out.c1; have s2 := Hs.out.c2; have sl := Hs.out.lt
                            go_wp2_with fail
                            with_reducible refine Calls.mono (HSM.out _) ?_
                            rintro e w1 ⟨rfl, hb⟩
                            replace Hp := Lib.hid (Hp.out.go hb)
                            replace Hs := Lib.hid (Hs.out.go hb)
                            replace HB := Lib.hid (HB.out.trans (hb.mono HB.out.size))
                            clear hb HSM
                            clear p0 p1 p2 pl s0 s1 s2 sl
                            have p0 := Hp.out.c0; have p1 := Hp.out.c1; have p2 := Hp.out.c2; have pl := Hp.out.lt
                            have s0 := Hs.out.c0; have s1 := Hs.out.c1; have s2 := Hs.out.c2; have sl := Hs.out.lt
                            go_wp2_with fail
                            with_reducible refine Calls.mono (HFW.out _ HB.out) ?_
                            rintro e w2 ⟨rfl, hb⟩
                            replace Hp := Lib.hid (Hp.out.go hb)
                            replace Hs := Lib.hid (Hs.out.go hb)
                            replace HB := Lib.hid (HB.out.trans (hb.mono HB.out.size))
                            clear hb HFW
                            clear p0 p1 p2 pl s0 s1 s2 sl
                            have p0 := Hp.out.c0; have p1 := Hp.out.c1; have p2 := Hp.out.c2; have pl := Hp.out.lt
                            have s0 := Hs.out.c0; have s1 := Hs.out.c1; have s2 := Hs.out.c2; have sl := Hs.out.lt
                            go_wp2_with fail
                            with_reducible refine Calls.mono (HR.out _ HB.out) ?_
                            rintro e w3 ⟨rfl, hb⟩
                            replace Hp := Lib.hid (Hp.out.go hb)
                            replace Hs := Lib.hid (Hs.out.go hb)
                            replace HB := Lib.hid (HB.out.trans (hb.mono HB.out.size))
                            clear hb HR
                            clear p0 p1 p2 pl s0 s1 s2 sl
                            have p0 := Hp.out.c0; have p1 := Hp.out.c1; have p2 := Hp.out.c2; have pl := Hp.out.lt
                            have s0 := Hs.out.c0; have s1 := Hs.out.c1; have s2 := Hs.out.c2; have sl := Hs.out.lt
                            go_wp2_with fail
                            with_reducible refine Calls.mono (HV.out _) ?_
                            rintro e w4 ⟨rfl, hb⟩
                            replace Hp := Lib.hid (Hp.out.go hb)
                            replace Hs := Lib.hid (Hs.out.go hb)
                            replace HB := Lib.hid (HB.out.trans (hb.mono HB.out.size))
                            clear hb HV
                            clear p0 p1 p2 pl s0 s1 s2 sl
                            have p0 := Hp.out.c0; have p1 := Hp.out.c1; have p2 := Hp.out.c2; have pl := Hp.out.lt
                            have s0 := Hs.out.c0; have s1 := Hs.out.c1; have s2 := Hs.out.c2; have sl := Hs.out.lt
                            go_wp2_with fail
                            go_ret
                            exact ⟨rfl, HB.out⟩
    · rw [solPB_no so] at HR
      clear so HSI HV
      go_enter Try.func6, Try.ntmps6
      go_upto_region 1 with fail
      obtain ⟨w0, hw0⟩ : ∃ w0, w0 = (w.alloc (.cells #[.int .i64 p.x, .int .i64 p.y, .int .i64 p.z] 24)).alloc (.cells #[.int .i64 s.x, .int .i64 s.y, .int .i64 s.z] 24) := ⟨_, rfl⟩
      have HB : Hid (Below w.heap.size w w0) := Lib.hid (by rw [hw0]; exact ((Below.refl _ _).alloc (Nat.le_refl _) _).alloc (by simp) _)
      have Hp : Hid (P3At w0 w.heap.size p) := Lib.hid (by rw [hw0]; exact (heap2 w _ _).1)
      have Hs : Hid (P3At w0 (w.heap.size + 1) s) := Lib.hid (by rw [hw0]; exact (heap2 w _ _).2)
      rw [← hw0]
      clear hw0
      generalize w.heap.size + 1 = gs at *
      obtain ⟨gp, hgp⟩ : ∃ gp, gp = w.heap.size := ⟨_, rfl⟩
      rw [← hgp] at Hp
      simp only [← hgp]
      clear hgp
      have p0 := Hp.out.c0; have p1 := Hp.out.c1; have p2 := Hp.out.c2; have pl := Hp.out.lt
      have s0 := Hs.out.c0; have s1 := Hs.out.c1; have s2 := Hs.out.c2; have sl := Hs.out.lt
      go_wp2_with fail
      with_reducible refine Calls.mono (HSM.out _) ?_
      rintro e w1 ⟨rfl, hb⟩
      replace Hp := Lib.hid (Hp.out.go hb)
      replace Hs := Lib.hid (Hs.out.go hb)
      replace HB := Lib.hid (HB.out.trans (hb.mono HB.out.size))
      clear hb HSM
      clear p0 p1 p2 pl s0 s1 s2 sl
      have p0 := Hp.out.c0; have p1 := Hp.out.c1; have p2 := Hp.out.c2; have pl := Hp.out.lt
      have s0 := Hs.out.c0; have s1 := Hs.out.c1; have s2 := Hs.out.c2; have sl := Hs.out.lt
      go_wp2_with fail
      with_reducible refine Calls.mono (HFW.out _ HB.out) ?_
      rintro e w2 ⟨rfl, hb⟩
      replace Hp := Lib.hid (Hp.out.go hb)
      replace Hs := Lib.hid (Hs.out.go hb)
      replace HB := Lib.hid (HB.out.trans (hb.mono HB.out.size))
      clear hb HFW
      clear p0 p1 p2 pl s0 s1 s2 sl
      have p0 := Hp.out.c0; have p1 := Hp.out.c1; have p2 := Hp.out.c2; have pl := Hp.out.lt
      have s0 := Hs.out.c0; have s1 := Hs.out.c1; have s2 := Hs.out.c2; have sl := Hs.out.lt
      go_wp2_with fail
      with_reducible refine Calls.mono (HR.out _ HB.out) ?_
      rintro e w3 ⟨rfl, hb⟩
      replace Hp := Lib.hid (Hp.out.go hb)
      replace Hs := Lib.hid (Hs.out.go hb)
      replace HB := Lib.hid (HB.out.trans (hb.mono HB.out.size))
      clear hb HR
      clear p0 p1 p2 pl s0 s1 s2 sl
      have p0 := Hp.out.c0; have p1 := Hp.out.c1; have p2 := Hp.out.c2; have pl := Hp.out.lt
      have s0 := Hs.out.c0; have s1 := Hs.out.c1; have s2 := Hs.out.c2; have sl := Hs.out.lt
      go_wp2_with fail
      go_ret
      exact ⟨rfl, HB.out⟩
  · rw [few11_no hf] at HFW
    clear hl hc hs hf HV
    go_enter Try.func6, Try.ntmps6
    go_upto_region 1 with fail
    obtain ⟨w0, hw0⟩ : ∃ w0, w0 = (w.alloc (.cells #[.int .i64 p.x, .int .i64 p.y, .int .i64 p.z] 24)).alloc (.cells #[.int .i64 s.x, .int .i64 s.y, .int .i64 s.z] 24) := ⟨_, rfl⟩
    have HB : Hid (Below w.heap.size w w0) := Lib.hid (by rw [hw0]; exact ((Below.refl _ _).alloc (Nat.le_refl _) _).alloc (by simp) _)
    have Hp : Hid (P3At w0 w.heap.size p) := Lib.hid (by rw [hw0]; exact (heap2 w _ _).1)
    have Hs : Hid (P3At w0 (w.heap.size + 1) s) := Lib.hid (by rw [hw0]; exact (heap2 w _ _).2)
    rw [← hw0]
    clear hw0
    generalize w.heap.size + 1 = gs at *
    obtain ⟨gp, hgp⟩ : ∃ gp, gp = w.heap.size := ⟨_, rfl⟩
    rw [← hgp] at Hp
    simp only [← hgp]
    clear hgp
    have p0 := Hp.out.c0; have p1 := Hp.out.c1; have p2 := Hp.out.c2; have pl := Hp.out.lt
    have s0 := Hs.out.c0; have s1 := Hs.out.c1; have s2 := Hs.out.c2; have sl := Hs.out.lt
    go_wp2_with fail
    with_reducible refine Calls.mono (HSM.out _) ?_
    rintro e w1 ⟨rfl, hb⟩
    replace Hp := Lib.hid (Hp.out.go hb)
    replace Hs := Lib.hid (Hs.out.go hb)
    replace HB := Lib.hid (HB.out.trans (hb.mono HB.out.size))
    clear hb HSM
    clear p0 p1 p2 pl s0 s1 s2 sl
    have p0 := Hp.out.c0; have p1 := Hp.out.c1; have p2 := Hp.out.c2; have pl := Hp.out.lt
    have s0 := Hs.out.c0; have s1 := Hs.out.c1; have s2 := Hs.out.c2; have sl := Hs.out.lt
    go_wp2_with fail
    with_reducible refine Calls.mono (HFW.out _ HB.out) ?_
    rintro e w2 ⟨rfl, hb⟩
    replace Hp := Lib.hid (Hp.out.go hb)
    replace Hs := Lib.hid (Hs.out.go hb)
    replace HB := Lib.hid (HB.out.trans (hb.mono HB.out.size))
    clear hb HFW
    clear p0 p1 p2 pl s0 s1 s2 sl
    have p0 := Hp.out.c0; have p1 := Hp.out.c1; have p2 := Hp.out.c2; have pl := Hp.out.lt
    have s0 := Hs.out.c0; have s1 := Hs.out.c1; have s2 := Hs.out.c2; have sl := Hs.out.lt
    go_wp2_with fail
    go_ret
    exact ⟨rfl, HB.out⟩
end Go.Proofs.Ytkjblmfmaenllaa
