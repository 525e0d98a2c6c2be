/-
  SightMoves: the walk of the law.
-/
import Derived.Test.YtkjblmfmaenllaaYt
import Derived.Test.YtkjblmfmaenllaaYo
import Derived.Test.YtkjblmfmaenllaaZ5
import Derived.Test.YtkjblmfmaenllaaAk
set_option linter.unusedVariables false
set_option maxRecDepth 100000
namespace Go.Proofs.Ytkjblmfmaenllaa
open Go.RowKit

/-- a point at a block. -/
def P3At (w : World) (b : Nat) (v : V3) : Prop := w.heap[b]? = some (.cells #[.int .i64 v.x, .int .i64 v.y, .int .i64 v.z] 24 (0, 0))
section
variable {w w' : World} {b : Nat} {v : V3}
theorem P3At.lt (h : P3At w b v) : b < w.heap.size := (Array.getElem?_eq_some_iff.1 h).1
theorem P3At.c0 (h : P3At w b v) : w.cell? ⟨b, 0, none⟩ = some (.int .i64 v.x) := by rw [Lib.cell_of_heap h]; rfl
theorem P3At.c1 (h : P3At w b v) : w.cell? ⟨b, 1, none⟩ = some (.int .i64 v.y) := by rw [Lib.cell_of_heap h]; rfl
theorem P3At.c2 (h : P3At w b v) : w.cell? ⟨b, 2, none⟩ = some (.int .i64 v.z) := by rw [Lib.cell_of_heap h]; rfl
theorem P3At.go (h : P3At w b v) (hb : Below w.heap.size w w') : P3At w' b v := (hb.block _ h.lt).trans h
end
theorem heap4 (w : World) (a b c d : Obj) : ((((w.alloc a).alloc b).alloc c).alloc d).heap[w.heap.size]? = some a ∧ ((((w.alloc a).alloc b).alloc c).alloc d).heap[w.heap.size + 1]? = some b ∧ ((((w.alloc a).alloc b).alloc c).alloc d).heap[w.heap.size + 1 + 1]? = some c ∧ ((((w.alloc a).alloc b).alloc c).alloc d).heap[w.heap.size + 1 + 1 + 1]? = some d := by
  obtain ⟨h0, h1, h2⟩ := heap3 w a b c
  have s3 : (((w.alloc a).alloc b).alloc c).heap.size = w.heap.size + 1 + 1 + 1 := by simp
  have k3 : Below (((w.alloc a).alloc b).alloc c).heap.size (((w.alloc a).alloc b).alloc c) ((((w.alloc a).alloc b).alloc c).alloc d) := (Below.refl _ _).alloc (Nat.le_refl _) _
  have h3 := heap_alloc_new (((w.alloc a).alloc b).alloc c) d
  rw [s3] at h3
  exact ⟨(k3.block _ (by rw [s3]; omega)).trans h0, (k3.block _ (by rw [s3]; omega)).trans h1, (k3.block _ (by rw [s3]; omega)).trans h2, h3⟩
/-- a box at a block. -/
def B6At (w : World) (g : Nat) (u : Bx) : Prop := w.heap[g]? = some (.cells #[.int .i64 u.r.X0, .int .i64 u.r.Y0, .int .i64 u.r.X1, .int .i64 u.r.Y1, .int .i64 u.z0, .int .i64 u.z1] 37 (0, 0))
section
variable {w w' : World} {g : Nat} {u : Bx}
theorem B6At.lt (h : B6At w g u) : g < w.heap.size := (Array.getElem?_eq_some_iff.1 h).1
theorem B6At.c0 (h : B6At w g u) : w.cell? ⟨g, 0, none⟩ = some (.int .i64 u.r.X0) := by rw [Lib.cell_of_heap h]; rfl
theorem B6At.c1 (h : B6At w g u) : w.cell? ⟨g, 1, none⟩ = some (.int .i64 u.r.Y0) := by rw [Lib.cell_of_heap h]; rfl
theorem B6At.c2 (h : B6At w g u) : w.cell? ⟨g, 2, none⟩ = some (.int .i64 u.r.X1) := by rw [Lib.cell_of_heap h]; rfl
theorem B6At.c3 (h : B6At w g u) : w.cell? ⟨g, 3, none⟩ = some (.int .i64 u.r.Y1) := by rw [Lib.cell_of_heap h]; rfl
theorem B6At.c4 (h : B6At w g u) : w.cell? ⟨g, 4, none⟩ = some (.int .i64 u.z0) := by rw [Lib.cell_of_heap h]; rfl
theorem B6At.c5 (h : B6At w g u) : w.cell? ⟨g, 5, none⟩ = some (.int .i64 u.z1) := by rw [Lib.cell_of_heap h]; rfl
theorem B6At.go (h : B6At w g u) (hb : Below w.heap.size w w') : B6At w' g u := (hb.block _ h.lt).trans h
end
theorem qw_go {v : Value} {F : List Bx} {w wr w' : World} (h : QW v F w wr) (hb : Below wr.heap.size wr w') : QW v F w w' := ⟨own_go h.own hb, h.bel.trans (hb.mono h.bel.size)⟩
def OfN11 (n : Nat) (S : List Sl) (er : Int) (w : World) (e : Ending) (w' : World) : Prop := ∃ A c, e = .returned (.tuple #[.slice A n c, .int .i64 er]) ∧ SIn w' A c S ∧ Below w.heap.size w w'
theorem of_n11 {A : Option Addr} {cap n : Nat} {l : List Bx} {w : World} {S : List Sl} {er : Int} (h : BxRow w A l) (hl : l.length ≤ 1099511627776) (e : ofS l = (S, er)) (hn : n = S.length) : Calls Try.prog 24 #[.slice A l.length cap] w (OfN11 n S er w) := by
  have k := bof_any A cap l w h hl
  rw [e] at k
  subst hn; exact k
theorem rb_nd (a b c d e f : Int) (w : World) : Calls Try.prog 23 #[.agg #[.int .i64 a, .int .i64 b, .int .i64 c, .int .i64 d, .int .i64 e, .int .i64 f]] w (BlIs (decide (BOk ⟨⟨a, b, c, d⟩, e, f⟩)) w) := drb_any ⟨⟨a, b, c, d⟩, e, f⟩ w
/-- what the last region reads: five points. -/
def Tf11 (g gq gd ga gb : Nat) (p q d a b : V3) (w0 w' : World) : Prop := w'.cell? ⟨g, 0, none⟩ = some (.int .i64 p.x) ∧ w'.cell? ⟨g, 1, none⟩ = some (.int .i64 p.y) ∧ w'.cell? ⟨g, 2, none⟩ = some (.int .i64 p.z) ∧ w'.cell? ⟨gq, 0, none⟩ = some (.int .i64 q.x) ∧ w'.cell? ⟨gq, 1, none⟩ = some (.int .i64 q.y) ∧ w'.cell? ⟨gq, 2, none⟩ = some (.int .i64 q.z) ∧ w'.cell? ⟨gd, 0, none⟩ = some (.int .i64 d.x) ∧ w'.cell? ⟨gd, 1, none⟩ = some (.int .i64 d.y) ∧ w'.cell? ⟨gd, 2, none⟩ = some (.int .i64 d.z) ∧ w'.cell? ⟨ga, 0, none⟩ = some (.int .i64 a.x) ∧ w'.cell? ⟨ga, 1, none⟩ = some (.int .i64 a.y) ∧ w'.cell? ⟨ga, 2, none⟩ = some (.int .i64 a.z) ∧ w'.cell? ⟨gb, 0, none⟩ = some (.int .i64 b.x) ∧ w'.cell? ⟨gb, 1, none⟩ = some (.int .i64 b.y) ∧ w'.cell? ⟨gb, 2, none⟩ = some (.int .i64 b.z) ∧ g < w'.heap.size ∧ gq < w'.heap.size ∧ gd < w'.heap.size ∧ ga < w'.heap.size ∧ gb < w'.heap.size ∧ Hid (Below w0.heap.size w0 w')
theorem Tf11.bel {g gq gd ga gb : Nat} {p q d a b : V3} {w0 w : World} (h : Tf11 g gq gd ga gb p q d a b w0 w) : Below w0.heap.size w0 w := h.2.2.2.2.2.2.2.2.2.2.2.2.2.2.2.2.2.2.2.2.out
theorem Tf11.go {g gq gd ga gb : Nat} {p q d a b : V3} {w0 w w' : World} (h : Tf11 g gq gd ga gb p q d a b w0 w) (hb : Below w.heap.size w w') : Tf11 g gq gd ga gb p q d a b w0 w' := by
  obtain ⟨x0, x1, x2, x3, x4, x5, x6, x7, x8, x9, x10, x11, x12, x13, x14, l0, l1, l2, l3, l4, h8⟩ := h
  have c0 := fun k => hb.cell (p := ⟨g, k, none⟩) l0
  have c1 := fun k => hb.cell (p := ⟨gq, k, none⟩) l1
  have c2 := fun k => hb.cell (p := ⟨gd, k, none⟩) l2
  have c3 := fun k => hb.cell (p := ⟨ga, k, none⟩) l3
  have c4 := fun k => hb.cell (p := ⟨gb, k, none⟩) l4
  exact ⟨(c0 _).trans x0, (c0 _).trans x1, (c0 _).trans x2, (c1 _).trans x3, (c1 _).trans x4, (c1 _).trans x5, (c2 _).trans x6, (c2 _).trans x7, (c2 _).trans x8, (c3 _).trans x9, (c3 _).trans x10, (c3 _).trans x11, (c4 _).trans x12, (c4 _).trans x13, (c4 _).trans x14, Nat.lt_of_lt_of_le l0 hb.size, Nat.lt_of_lt_of_le l1 hb.size, Nat.lt_of_lt_of_le l2 hb.size, Nat.lt_of_lt_of_le l3 hb.size, Nat.lt_of_lt_of_le l4 hb.size, Lib.hid (h8.out.trans (hb.mono h8.out.size))⟩
theorem Tf11.drewN {g gq gd ga gb : Nat} {p q d a b : V3} {w0 w : World} (h : Tf11 g gq gd ga gb p q d a b w0 w) (k : Nat) : Tf11 g gq gd ga gb p q d a b w0 (w.drewN k) := h.go (below_drewN (Below.refl _ _) k)
theorem Tf11.of {g gq gd ga gb : Nat} {p q d a b : V3} {w : World} (h0 : P3At w g p) (h1 : P3At w gq q) (h2 : P3At w gd d) (h3 : P3At w ga a) (h4 : P3At w gb b) : Tf11 g gq gd ga gb p q d a b w w := ⟨h0.c0, h0.c1, h0.c2, h1.c0, h1.c1, h1.c2, h2.c0, h2.c1, h2.c2, h3.c0, h3.c1, h3.c2, h4.c0, h4.c1, h4.c2, h0.lt, h1.lt, h2.lt, h3.lt, h4.lt, Lib.hid (Below.refl _ _)⟩
set_option maxHeartbeats 40000000 in
theorem moves11_walk (A : Option Addr) (cap : Nat) (l : List Bx) (p q d b : V3) (w : World) (hl : BIn w A cap l) : Calls Try.prog 8 #[.slice A l.length cap, .agg #[.int .i64 p.x, .int .i64 p.y, .int .i64 p.z], .agg #[.int .i64 q.x, .int .i64 q.y, .int .i64 q.z], .agg #[.int .i64 d.x, .int .i64 d.y, .int .i64 d.z], .agg #[.int .i64 b.x, .int .i64 b.y, .int .i64 b.z]] w (BlIs true w) := by
  have HSM := Lib.hid (fun w' => jsmall_any w')
  have HROW := Lib.hid hl.row
  have hlen9 := hl.len
  have HVP := Lib.hid (fun w' => eValid_nd p.x p.y p.z w')
  have HVQ := Lib.hid (fun w' => eValid_nd q.x q.y q.z w')
  clear hl
  go_enter Try.func8, Try.ntmps8
  go_upto_region 1 with fail
  obtain ⟨w0, hw0⟩ : ∃ w0, w0 = (((w.alloc (.cells #[.int .i64 p.x, .int .i64 p.y, .int .i64 p.z] 24)).alloc (.cells #[.int .i64 q.x, .int .i64 q.y, .int .i64 q.z] 24)).alloc (.cells #[.int .i64 d.x, .int .i64 d.y, .int .i64 d.z] 24)).alloc (.cells #[.int .i64 b.x, .int .i64 b.y, .int .i64 b.z] 24) := ⟨_, rfl⟩
  have HB : Hid (Below w.heap.size w w0) := Lib.hid (by rw [hw0]; exact ((((Below.refl _ _).alloc (Nat.le_refl _) _).alloc (by simp) _).alloc (by simp; omega) _).alloc (by simp; omega) _)
  have Hp : Hid (P3At w0 w.heap.size p) := Lib.hid (by rw [hw0]; exact (heap4 w _ _ _ _).1)
  have Hq : Hid (P3At w0 (w.heap.size + 1) q) := Lib.hid (by rw [hw0]; exact (heap4 w _ _ _ _).2.1)
  have Hd : Hid (P3At w0 (w.heap.size + 1 + 1) d) := Lib.hid (by rw [hw0]; exact (heap4 w _ _ _ _).2.2.1)
  have Hb : Hid (P3At w0 (w.heap.size + 1 + 1 + 1) b) := Lib.hid (by rw [hw0]; exact (heap4 w _ _ _ _).2.2.2)
  rw [← hw0]
  clear hw0
  generalize w.heap.size + 1 + 1 + 1 = gb at *
  generalize w.heap.size + 1 + 1 = gd at *
  generalize w.heap.size + 1 = gq at *
  obtain ⟨gp, hgp⟩ : ∃ gp, gp = w.heap.size := ⟨_, rfl⟩
  rw [← hgp] at Hp
  simp only [← hgp]
  clear hgp
  have p0 := Hp.out.c0; have p1 := Hp.out.c1; have p2 := Hp.out.c2; have pl := Hp.out.lt
  have q0 := Hq.out.c0; have q1 := Hq.out.c1; have q2 := Hq.out.c2; have ql := Hq.out.lt
  have d0 := Hd.out.c0; have d1 := Hd.out.c1; have d2 := Hd.out.c2; have dl := Hd.out.lt
  have b0 := Hb.out.c0; have b1 := Hb.out.c1; have b2 := Hb.out.c2; have bl := Hb.out.lt
  go_wp2_with fail
  with_reducible refine Calls.mono (HSM.out _) ?_
  rintro e w1 ⟨rfl, hb⟩
  replace Hp := Lib.hid (Hp.out.go hb)
  replace Hq := Lib.hid (Hq.out.go hb)
  replace Hd := Lib.hid (Hd.out.go hb)
  replace Hb := Lib.hid (Hb.out.go hb)
  replace HB := Lib.hid (HB.out.trans (hb.mono HB.out.size))
  clear hb HSM
  clear p0 p1 p2 pl q0 q1 q2 ql d0 d1 d2 dl b0 b1 b2 bl
  by_cases cl : 20 < l.length
  · clear HVP HVQ HROW
    have cl2 : (20 : Int) < (l.length : Int) := by omega
    have p0 := Hp.out.c0; have p1 := Hp.out.c1; have p2 := Hp.out.c2; have pl := Hp.out.lt
    have q0 := Hq.out.c0; have q1 := Hq.out.c1; have q2 := Hq.out.c2; have ql := Hq.out.lt
    have d0 := Hd.out.c0; have d1 := Hd.out.c1; have d2 := Hd.out.c2; have dl := Hd.out.lt
    have b0 := Hb.out.c0; have b1 := Hb.out.c1; have b2 := Hb.out.c2; have bl := Hb.out.lt
    go_wp2_with fail
    go_ret
    exact ⟨rfl, HB.out⟩
  · skip
    have cl2 : ¬ (20 : Int) < (l.length : Int) := by omega
    by_cases cxa : b.x < -1048576
    · clear HVP HVQ HROW
      have p0 := Hp.out.c0; have p1 := Hp.out.c1; have p2 := Hp.out.c2; have pl := Hp.out.lt
      have q0 := Hq.out.c0; have q1 := Hq.out.c1; have q2 := Hq.out.c2; have ql := Hq.out.lt
      have d0 := Hd.out.c0; have d1 := Hd.out.c1; have d2 := Hd.out.c2; have dl := Hd.out.lt
      have b0 := Hb.out.c0; have b1 := Hb.out.c1; have b2 := Hb.out.c2; have bl := Hb.out.lt
      go_wp2_with fail
      go_ret
      exact ⟨rfl, HB.out⟩
    · skip
      by_cases cxb : 1048576 < b.x
      · clear HVP HVQ HROW
        have p0 := Hp.out.c0; have p1 := Hp.out.c1; have p2 := Hp.out.c2; have pl := Hp.out.lt
        have q0 := Hq.out.c0; have q1 := Hq.out.c1; have q2 := Hq.out.c2; have ql := Hq.out.lt
        have d0 := Hd.out.c0; have d1 := Hd.out.c1; have d2 := Hd.out.c2; have dl := Hd.out.lt
        have b0 := Hb.out.c0; have b1 := Hb.out.c1; have b2 := Hb.out.c2; have bl := Hb.out.lt
        go_wp2_with fail
        go_ret
        exact ⟨rfl, HB.out⟩
      · skip
        by_cases cya : b.y < -1048576
        · clear HVP HVQ HROW
          have p0 := Hp.out.c0; have p1 := Hp.out.c1; have p2 := Hp.out.c2; have pl := Hp.out.lt
          have q0 := Hq.out.c0; have q1 := Hq.out.c1; have q2 := Hq.out.c2; have ql := Hq.out.lt
          have d0 := Hd.out.c0; have d1 := Hd.out.c1; have d2 := Hd.out.c2; have dl := Hd.out.lt
          have b0 := Hb.out.c0; have b1 := Hb.out.c1; have b2 := Hb.out.c2; have bl := Hb.out.lt
          go_wp2_with fail
          go_ret
          exact ⟨rfl, HB.out⟩
        · skip
          by_cases cyb : 1048576 < b.y
          · clear HVP HVQ HROW
            have p0 := Hp.out.c0; have p1 := Hp.out.c1; have p2 := Hp.out.c2; have pl := Hp.out.lt
            have q0 := Hq.out.c0; have q1 := Hq.out.c1; have q2 := Hq.out.c2; have ql := Hq.out.lt
            have d0 := Hd.out.c0; have d1 := Hd.out.c1; have d2 := Hd.out.c2; have dl := Hd.out.lt
            have b0 := Hb.out.c0; have b1 := Hb.out.c1; have b2 := Hb.out.c2; have bl := Hb.out.lt
            go_wp2_with fail
            go_ret
            exact ⟨rfl, HB.out⟩
          · skip
            by_cases cza : b.z < -4096
            · clear HVP HVQ HROW
              have p0 := Hp.out.c0; have p1 := Hp.out.c1; have p2 := Hp.out.c2; have pl := Hp.out.lt
              have q0 := Hq.out.c0; have q1 := Hq.out.c1; have q2 := Hq.out.c2; have ql := Hq.out.lt
              have d0 := Hd.out.c0; have d1 := Hd.out.c1; have d2 := Hd.out.c2; have dl := Hd.out.lt
              have b0 := Hb.out.c0; have b1 := Hb.out.c1; have b2 := Hb.out.c2; have bl := Hb.out.lt
              go_wp2_with fail
              go_ret
              exact ⟨rfl, HB.out⟩
            · skip
              by_cases czb : 4096 < b.z
              · clear HVP HVQ HROW
                have p0 := Hp.out.c0; have p1 := Hp.out.c1; have p2 := Hp.out.c2; have pl := Hp.out.lt
                have q0 := Hq.out.c0; have q1 := Hq.out.c1; have q2 := Hq.out.c2; have ql := Hq.out.lt
                have d0 := Hd.out.c0; have d1 := Hd.out.c1; have d2 := Hd.out.c2; have dl := Hd.out.lt
                have b0 := Hb.out.c0; have b1 := Hb.out.c1; have b2 := Hb.out.c2; have bl := Hb.out.lt
                go_wp2_with fail
                go_ret
                exact ⟨rfl, HB.out⟩
              · skip
                by_cases cp : PtOk p
                · skip
                  rw [show decide (PtOk ⟨p.x, p.y, p.z⟩) = true from decide_eq_true cp] at HVP
                  have HCP := Lib.hid cp
                  clear cp
                  have p0 := Hp.out.c0; have p1 := Hp.out.c1; have p2 := Hp.out.c2; have pl := Hp.out.lt
                  have q0 := Hq.out.c0; have q1 := Hq.out.c1; have q2 := Hq.out.c2; have ql := Hq.out.lt
                  have d0 := Hd.out.c0; have d1 := Hd.out.c1; have d2 := Hd.out.c2; have dl := Hd.out.lt
                  have b0 := Hb.out.c0; have b1 := Hb.out.c1; have b2 := Hb.out.c2; have bl := Hb.out.lt
                  go_wp2_with fail
                  with_reducible refine Calls.mono (HVP.out _) ?_
                  rintro e w2 ⟨rfl, hb⟩
                  replace Hp := Lib.hid (Hp.out.go hb)
                  replace Hq := Lib.hid (Hq.out.go hb)
                  replace Hd := Lib.hid (Hd.out.go hb)
                  replace Hb := Lib.hid (Hb.out.go hb)
                  replace HB := Lib.hid (HB.out.trans (hb.mono HB.out.size))
                  clear hb HVP
                  clear p0 p1 p2 pl q0 q1 q2 ql d0 d1 d2 dl b0 b1 b2 bl
                  by_cases cq : PtOk q
                  · skip
                    rw [show decide (PtOk ⟨q.x, q.y, q.z⟩) = true from decide_eq_true cq] at HVQ
                    have HCQ := Lib.hid cq
                    clear cq
                    have p0 := Hp.out.c0; have p1 := Hp.out.c1; have p2 := Hp.out.c2; have pl := Hp.out.lt
                    have q0 := Hq.out.c0; have q1 := Hq.out.c1; have q2 := Hq.out.c2; have ql := Hq.out.lt
                    have d0 := Hd.out.c0; have d1 := Hd.out.c1; have d2 := Hd.out.c2; have dl := Hd.out.lt
                    have b0 := Hb.out.c0; have b1 := Hb.out.c1; have b2 := Hb.out.c2; have bl := Hb.out.lt
                    go_wp2_with fail
                    with_reducible refine Calls.mono (HVQ.out _) ?_
                    rintro e w3 ⟨rfl, hb⟩
                    replace Hp := Lib.hid (Hp.out.go hb)
                    replace Hq := Lib.hid (Hq.out.go hb)
                    replace Hd := Lib.hid (Hd.out.go hb)
                    replace Hb := Lib.hid (Hb.out.go hb)
                    replace HB := Lib.hid (HB.out.trans (hb.mono HB.out.size))
                    clear hb HVQ
                    clear p0 p1 p2 pl q0 q1 q2 ql d0 d1 d2 dl b0 b1 b2 bl
                    obtain ⟨i0, hi9, hz0, hz1, hz2⟩ := info_parts infoBox
                    have I0 : Hid (QW (.slice none 0 0) ((l.take 0).map (mvX b)) w3 w3) := Lib.hid ⟨World.ownsRow_nil _ _ _ _, Below.refl _ _⟩
                    have J0 : Hid (∀ x ∈ l.take 0, BOk x ∧ BOk (mvX b x)) := Lib.hid (fun x hx => by simp at hx)
                    have HRB := Lib.hid (fun a b c d e f w' => rb_nd a b c d e f w')
                    go_upto_region 6 with fail
                    go_loopw [12, 13] (fun v i wr => ∃ (k : Nat) (v0 : Value), k ≤ l.length ∧ i = .int .i64 k ∧ v0 = v ∧ Hid (QW v0 ((l.take k).map (mvX b)) w3 wr) ∧ Hid (∀ x ∈ l.take k, BOk x ∧ BOk (mvX b x))) (fun _ i _ => l.length - (intOf i).toNat)
                    case atStart => exact ⟨0, _, Nat.zero_le _, rfl, rfl, I0, J0⟩
                    case round =>
                      clear I0 J0
                      obtain ⟨k, v, hk, rfl, rfl, HI, HJ⟩ := hrel
                      by_cases hlt : k < l.length
                      · obtain ⟨b1, o1, rfl, hb1, hv1⟩ := HROW.out (by omega)
                        obtain ⟨q0, q1, q2, q3, q4, q5⟩ := hv1 k hlt
                        have HBW := Lib.hid (HB.out.trans (HI.out.bel.mono HB.out.size))
                        have wc := fun o => HBW.out.cell (p := ⟨b1, o, none⟩) hb1
                        have q0 := (wc _).trans q0; have q1 := (wc _).trans q1; have q2 := (wc _).trans q2; have q3 := (wc _).trans q3; have q4 := (wc _).trans q4; have q5 := (wc _).trans q5
                        have hbw : b1 < wr.heap.size := Nat.lt_of_lt_of_le hb1 HBW.out.size
                        have n0 : (0 : Int) ≤ (k : Int) := by omega
                        have n1 : (k : Int) < (l.length : Int) := by omega
                        have HNX : Hid (BOk l[k] ∧ BOk (mvX b l[k]) → ∀ x ∈ l.take (k + 1), BOk x ∧ BOk (mvX b x)) := Lib.hid (fun hh x hx => by
                          rw [List.take_succ_eq_append_getElem hlt] at hx
                          rcases List.mem_append.1 hx with hx | hx
                          · exact HJ.out x hx
                          · rw [List.mem_singleton] at hx; subst hx; exact hh)
                        have HN2 : Hid ((l.take (k + 1)).map (mvX b) = (l.take k).map (mvX b) ++ [mvX b l[k]]) := Lib.hid (by rw [List.take_succ_eq_append_getElem hlt, List.map_append]; rfl)
                        have hFl : ((l.take k).map (mvX b)).length ≤ 20 := by rw [List.length_map, List.length_take]; omega
                        obtain ⟨u, hu⟩ : ∃ u, u = l[k] := ⟨_, rfl⟩
                        rw [← hu] at q0 q1 q2 q3 q4 q5 HNX HN2
                        obtain ⟨F, hF⟩ : ∃ F, F = (l.take k).map (mvX b) := ⟨_, rfl⟩
                        rw [← hF] at HI HN2 hFl
                        clear hu hF hv1 wc HJ HBW hb1
                        have HPb := Lib.hid (Hb.out.go HI.out.bel)
                        obtain ⟨y2, hy2⟩ : ∃ y2, y2 = wr.alloc (.cells #[.int .i64 u.r.X0, .int .i64 u.r.Y0, .int .i64 u.r.X1, .int .i64 u.r.Y1, .int .i64 u.z0, .int .i64 u.z1] 37) := ⟨_, rfl⟩
                        have hb2 : Below wr.heap.size wr y2 := by rw [hy2]; exact (Below.refl _ _).alloc (Nat.le_refl _) _
                        have HU : Hid (B6At y2 wr.heap.size u) := Lib.hid (by rw [hy2]; exact heap_alloc_new wr _)
                        have HI2 := Lib.hid (qw_go HI.out hb2)
                        have HPb2 := Lib.hid (HPb.out.go hb2)
                        have HY2 := Lib.hid hy2
                        clear hy2 hb2 HI HPb
                        go_upto_region 9 with fail
                        rw [← HY2.out]
                        clear HY2 q0 q1 q2 q3 q4 q5 hbw
                        generalize wr.heap.size = gu at *
                        have k0 := HU.out.c0; have k1 := HU.out.c1; have k2 := HU.out.c2; have k3 := HU.out.c3; have k4 := HU.out.c4; have k5 := HU.out.c5; have kl := HU.out.lt
                        go_wp2_with fail
                        with_reducible refine Calls.mono (HRB.out _ _ _ _ _ _ _) ?_
                        rintro e y3 ⟨rfl, hb⟩
                        have HU3 := Lib.hid (HU.out.go hb)
                        have HI3 := Lib.hid (qw_go HI2.out hb)
                        have HPb3 := Lib.hid (HPb2.out.go hb)
                        clear hb HU HI2 HPb2 k0 k1 k2 k3 k4 k5 kl
                        by_cases cu : BOk u
                        case neg =>
                          have hdec : decide (BOk ⟨⟨u.r.X0, u.r.Y0, u.r.X1, u.r.Y1⟩, u.z0, u.z1⟩) = false := decide_eq_false cu
                          have HBZ := Lib.hid (HB.out.trans (HI3.out.bel.mono HB.out.size))
                          clear HU3 HI3 HPb3 cu HNX HN2
                          go_wp2_with fail
                          go_ret
                          exact ⟨rfl, HBZ.out⟩
                        case pos =>
                          have hdec : decide (BOk ⟨⟨u.r.X0, u.r.Y0, u.r.X1, u.r.Y1⟩, u.z0, u.z1⟩) = true := decide_eq_true cu
                          have hcu := cu
                          obtain ⟨⟨⟨u0, u1, u2⟩, u3, u4, u5⟩, u6, u7, u8⟩ := hcu
                          have HCU := Lib.hid cu; clear cu
                          obtain ⟨X0, hX0⟩ : ∃ X0, u.r.X0 + b.x = X0 := ⟨_, rfl⟩
                          obtain ⟨Y0, hY0⟩ : ∃ Y0, u.r.Y0 + b.y = Y0 := ⟨_, rfl⟩
                          obtain ⟨X1, hX1⟩ : ∃ X1, u.r.X1 + b.x = X1 := ⟨_, rfl⟩
                          obtain ⟨Y1, hY1⟩ : ∃ Y1, u.r.Y1 + b.y = Y1 := ⟨_, rfl⟩
                          obtain ⟨Z0, hZ0⟩ : ∃ Z0, u.z0 + b.z = Z0 := ⟨_, rfl⟩
                          obtain ⟨Z1, hZ1⟩ : ∃ Z1, u.z1 + b.z = Z1 := ⟨_, rfl⟩
                          have r0 : IntKind.i64.wrap (u.r.X0 + b.x) = X0 := (IntWalk.i64_in _ (by omega)).trans hX0
                          have r1 : IntKind.i64.wrap (u.r.Y0 + b.y) = Y0 := (IntWalk.i64_in _ (by omega)).trans hY0
                          have r2 : IntKind.i64.wrap (u.r.X1 + b.x) = X1 := (IntWalk.i64_in _ (by omega)).trans hX1
                          have r3 : IntKind.i64.wrap (u.r.Y1 + b.y) = Y1 := (IntWalk.i64_in _ (by omega)).trans hY1
                          have r4 : IntKind.i64.wrap (u.z0 + b.z) = Z0 := (IntWalk.i64_in _ (by omega)).trans hZ0
                          have r5 : IntKind.i64.wrap (u.z1 + b.z) = Z1 := (IntWalk.i64_in _ (by omega)).trans hZ1
                          have emv : mvX b u = ⟨⟨X0, Y0, X1, Y1⟩, Z0, Z1⟩ := by unfold mvX mvR; rw [hX0, hY0, hX1, hY1, hZ0, hZ1]
                          rw [emv] at HNX HN2
                          clear hX0 hY0 hX1 hY1 hZ0 hZ1 emv u0 u1 u2 u3 u4 u5 u6 u7 u8
                          have k0 := HU3.out.c0; have k1 := HU3.out.c1; have k2 := HU3.out.c2; have k3 := HU3.out.c3; have kl := HU3.out.lt
                          have j0 := HPb3.out.c0; have j1 := HPb3.out.c1; have jl := HPb3.out.lt
                          obtain ⟨y4, hy4⟩ : ∃ y4, y4 = y3.alloc (.cells #[.int .i64 X0, .int .i64 Y0, .int .i64 X1, .int .i64 Y1] 35) := ⟨_, rfl⟩
                          have hb4 : Below y3.heap.size y3 y4 := by rw [hy4]; exact (Below.refl _ _).alloc (Nat.le_refl _) _
                          have m0 : y4.cell? ⟨y3.heap.size, 0, none⟩ = some (.int .i64 X0) := by rw [hy4, Lib.cell_of_heap (heap_alloc_new y3 _)]; rfl
                          have m1 : y4.cell? ⟨y3.heap.size, 1, none⟩ = some (.int .i64 Y0) := by rw [hy4, Lib.cell_of_heap (heap_alloc_new y3 _)]; rfl
                          have m2 : y4.cell? ⟨y3.heap.size, 2, none⟩ = some (.int .i64 X1) := by rw [hy4, Lib.cell_of_heap (heap_alloc_new y3 _)]; rfl
                          have m3 : y4.cell? ⟨y3.heap.size, 3, none⟩ = some (.int .i64 Y1) := by rw [hy4, Lib.cell_of_heap (heap_alloc_new y3 _)]; rfl
                          have ml : y3.heap.size < y4.heap.size := by rw [hy4]; simp
                          have HM0 := Lib.hid m0; have HM1 := Lib.hid m1; have HM2 := Lib.hid m2; have HM3 := Lib.hid m3; have HML := Lib.hid ml
                          clear m0 m1 m2 m3 ml
                          have HU4 := Lib.hid (HU3.out.go hb4)
                          have HI4 := Lib.hid (qw_go HI3.out hb4)
                          have HPb4 := Lib.hid (HPb3.out.go hb4)
                          have HY4 := Lib.hid hy4
                          clear hy4 hb4 HI3 HPb3 HU3
                          go_upto_region 12 with fail
                          rw [← HY4.out]
                          clear HY4 k0 k1 k2 k3 kl j0 j1 jl
                          generalize y3.heap.size = gr at *
                          have m0 := HM0.out; have m1 := HM1.out; have m2 := HM2.out; have m3 := HM3.out; have ml := HML.out
                          have k4 := HU4.out.c4; have k5 := HU4.out.c5; have kl := HU4.out.lt
                          have j2 := HPb4.out.c2; have jl := HPb4.out.lt
                          obtain ⟨y5, hy5⟩ : ∃ y5, y5 = y4.alloc (.cells #[.int .i64 X0, .int .i64 Y0, .int .i64 X1, .int .i64 Y1, .int .i64 Z0, .int .i64 Z1] 37) := ⟨_, rfl⟩
                          have hb5 : Below y4.heap.size y4 y5 := by rw [hy5]; exact (Below.refl _ _).alloc (Nat.le_refl _) _
                          have HX5 : Hid (B6At y5 y4.heap.size ⟨⟨X0, Y0, X1, Y1⟩, Z0, Z1⟩) := Lib.hid (by rw [hy5]; exact heap_alloc_new y4 _)
                          have HI5 := Lib.hid (qw_go HI4.out hb5)
                          have HY5 := Lib.hid hy5
                          clear hy5 hb5 HI4 HPb4 HU4 HM0 HM1 HM2 HM3 HML
                          go_upto_region 13 with fail
                          rw [← HY5.out]
                          clear HY5 m0 m1 m2 m3 ml k4 k5 kl j2 jl
                          generalize y4.heap.size = gx at *
                          have k0 := HX5.out.c0; have k1 := HX5.out.c1; have k2 := HX5.out.c2; have k3 := HX5.out.c3; have k4 := HX5.out.c4; have k5 := HX5.out.c5; have kl := HX5.out.lt
                          simp only at k0 k1 k2 k3 k4 k5
                          go_wp2_with fail
                          with_reducible refine Calls.mono (HRB.out _ _ _ _ _ _ _) ?_
                          rintro e y6 ⟨rfl, hb⟩
                          have HX6 := Lib.hid (HX5.out.go hb)
                          have HI6 := Lib.hid (qw_go HI5.out hb)
                          clear hb HX5 HI5 k0 k1 k2 k3 k4 k5 kl
                          by_cases cx : BOk ⟨⟨X0, Y0, X1, Y1⟩, Z0, Z1⟩
                          case neg =>
                            have hdx : decide (BOk ⟨⟨X0, Y0, X1, Y1⟩, Z0, Z1⟩) = false := decide_eq_false cx
                            have HBZ := Lib.hid (HB.out.trans (HI6.out.bel.mono HB.out.size))
                            clear HX6 HI6 cx HNX HN2 HCU
                            go_wp2_with fail
                            go_ret
                            exact ⟨rfl, HBZ.out⟩
                          case pos =>
                            have hdx : decide (BOk ⟨⟨X0, Y0, X1, Y1⟩, Z0, Z1⟩) = true := decide_eq_true cx
                            have HNJ := Lib.hid (HNX.out ⟨HCU.out, cx⟩)
                            clear cx HCU HNX
                            have k0 := HX6.out.c0; have k1 := HX6.out.c1; have k2 := HX6.out.c2; have k3 := HX6.out.c3; have k4 := HX6.out.c4; have k5 := HX6.out.c5; have kl := HX6.out.lt
                            simp only at k0 k1 k2 k3 k4 k5
                            have HO := Lib.hid HI6.out.own
                            have hsz := HI6.out.bel.size
                            go_wp2_with (at_builtin; refine wpList_append_own _ rfl _ _ 31 rfl w3.heap.size 37 i0 (.agg #[.int .i64 0, .int .i64 0, .int .i64 0, .int .i64 0, .int .i64 0, .int .i64 0]) 6 48 Try.underlying31 hi9 hz0 hz1 hz2 rfl (by decide) _ _ _ rfl (HO.out.alloc _) ⟨y6.heap.size, 0, none⟩ 1 1 [.int .i64 X0, .int .i64 Y0, .int .i64 X1, .int .i64 Y1, .int .i64 Z0, .int .i64 Z1] rfl rfl ?c1 ?c2 ?c3 ?c4 ?c5 ?_)
                            case c1 =>
                              intro t u ht
                              match t, ht with
                              | 0, ht => simp at ht; subst ht; simp [Addr.add]
                              | 1, ht => simp at ht; subst ht; simp [Addr.add]
                              | 2, ht => simp at ht; subst ht; simp [Addr.add]
                              | 3, ht => simp at ht; subst ht; simp [Addr.add]
                              | 4, ht => simp at ht; subst ht; simp [Addr.add]
                              | 5, ht => simp at ht; subst ht; simp [Addr.add]
                            case c2 => intro u hu; simp only [List.mem_cons, List.not_mem_nil, or_false] at hu; rcases hu with rfl | rfl | rfl | rfl | rfl | rfl <;> rfl
                            case c3 => unfold maxLen; omega
                            case c4 => omega
                            case c5 => simp; omega
                            intro v' y7 hown' hgr _
                            have HX : Hid (QW v' ((l.take (k + 1)).map (mvX b)) w3 y7) := Lib.hid ⟨by rw [HN2.out, bxcells_append, List.length_append]; exact hown', Below.grown (HI6.out.bel.alloc hsz _) hgr (by simp; omega) (fun k hk => (HO.out.lt k hk).1)⟩
                            clear hown' hgr HO HI6 HX6 k0 k1 k2 k3 k4 k5 kl HN2
                            go_wp2_with fail
                            go_roundw
                            case rel => exact ⟨k + 1, _, by omega, by go_num, rfl, HX, HNJ⟩
                            case measure => simp [intOf]; omega
                      · obtain rfl : k = l.length := by omega
                        rw [List.take_length] at HI HJ
                        have h1 : ∀ x ∈ l, BOk x := fun x hx => (HJ.out x hx).1
                        have h2 : ∀ x ∈ l, BOk (mvX b x) := fun x hx => (HJ.out x hx).2
                        have HMV := Lib.hid (moves_ok h1 h2 (by omega))
                        have HCB := Lib.hid (move_cub h1 h2)
                        clear h1 h2 HJ HRB
                        obtain ⟨AM, cm, rfl, hmrow, _, _⟩ := own_boxes HI.out.own
                        have HBW := Lib.hid (HB.out.trans (HI.out.bel.mono HB.out.size))
                        have HMR := Lib.hid hmrow
                        obtain ⟨M, hM⟩ : ∃ M, M = l.map (mvX b) := ⟨_, rfl⟩
                        have hML : M.length ≤ 20 := by rw [hM, List.length_map]; omega
                        rw [← hM] at HMV HMR HCB
                        simp only [← hM]
                        clear hM hmrow
                        replace Hp := Lib.hid (Hp.out.go HI.out.bel); replace Hq := Lib.hid (Hq.out.go HI.out.bel); replace Hd := Lib.hid (Hd.out.go HI.out.bel); replace Hb := Lib.hid (Hb.out.go HI.out.bel)
                        replace HB := HBW
                        clear HI HBW
                        obtain ⟨w10, hw10⟩ : ∃ w10, w10 = wr := ⟨_, rfl⟩
                        rw [← hw10] at Hp Hq Hd Hb HB HMR ⊢
                        clear hw10
                        have HA := Lib.hid (fun x y z w' => jat_any x y z w')
                        have hcp := HCP.out
                        have hcq := HCQ.out
                        unfold PtOk at hcp hcq
                        obtain ⟨ax, hax⟩ : ∃ ax, p.x + b.x = ax := ⟨_, rfl⟩
                        obtain ⟨fx, hfx⟩ : ∃ fx, q.x + b.x = fx := ⟨_, rfl⟩
                        have t1x : IntKind.i64.wrap (p.x + b.x) = ax := (IntWalk.i64_in _ (by omega)).trans hax
                        have t2x : IntKind.i64.wrap (q.x + b.x) = fx := (IntWalk.i64_in _ (by omega)).trans hfx
                        obtain ⟨ay, hay⟩ : ∃ ay, p.y + b.y = ay := ⟨_, rfl⟩
                        obtain ⟨fy, hfy⟩ : ∃ fy, q.y + b.y = fy := ⟨_, rfl⟩
                        have t1y : IntKind.i64.wrap (p.y + b.y) = ay := (IntWalk.i64_in _ (by omega)).trans hay
                        have t2y : IntKind.i64.wrap (q.y + b.y) = fy := (IntWalk.i64_in _ (by omega)).trans hfy
                        obtain ⟨az, haz⟩ : ∃ az, p.z + b.z = az := ⟨_, rfl⟩
                        obtain ⟨fz, hfz⟩ : ∃ fz, q.z + b.z = fz := ⟨_, rfl⟩
                        have t1z : IntKind.i64.wrap (p.z + b.z) = az := (IntWalk.i64_in _ (by omega)).trans haz
                        have t2z : IntKind.i64.wrap (q.z + b.z) = fz := (IntWalk.i64_in _ (by omega)).trans hfz
                        have ea : p.add b = ⟨ax, ay, az⟩ := by unfold V3.add; rw [hax, hay, haz]
                        have ef : q.add b = ⟨fx, fy, fz⟩ := by unfold V3.add; rw [hfx, hfy, hfz]
                        clear hcp hcq hax hay haz hfx hfy hfz
                        have HVA := Lib.hid (fun w' => eValid_nd ax ay az w')
                        have HVF := Lib.hid (fun w' => eValid_nd fx fy fz w')
                        rcases HMV.out with ⟨e1, e2⟩ | ⟨e1, e2, sS, sT⟩
                        · obtain ⟨n1, hn1⟩ : ∃ n1, n1 = ([] : List Sl).length := ⟨_, rfl⟩
                          obtain ⟨n2, hn2⟩ : ∃ n2, n2 = ([] : List Sl).length := ⟨_, rfl⟩
                          have HO1 : Hid (∀ w', Below w.heap.size w w' → Calls Try.prog 24 #[.slice A l.length cap] w' (OfN11 n1 [] 6 w')) := Lib.hid (fun w' hb => of_n11 (HROW.out.below hb) (by omega) e1 hn1)
                          have HO2 : Hid (∀ w', Below w10.heap.size w10 w' → Calls Try.prog 24 #[.slice AM M.length cm] w' (OfN11 n2 [] 6 w')) := Lib.hid (fun w' hb => of_n11 (HMR.out.below hb) (by omega) e2 hn2)
                          clear e1 e2 hn1 hn2 HMV HCB HVA HVF ea ef
                          have HBX : Hid (Below w10.heap.size w10 w10) := Lib.hid (Below.refl _ _)
                          have p0 := Hp.out.c0; have p1 := Hp.out.c1; have p2 := Hp.out.c2; have pl := Hp.out.lt
                          have q0 := Hq.out.c0; have q1 := Hq.out.c1; have q2 := Hq.out.c2; have ql := Hq.out.lt
                          have d0 := Hd.out.c0; have d1 := Hd.out.c1; have d2 := Hd.out.c2; have dl := Hd.out.lt
                          have b0 := Hb.out.c0; have b1 := Hb.out.c1; have b2 := Hb.out.c2; have bl := Hb.out.lt
                          go_wp2_with fail
                          with_reducible refine Calls.mono (HO1.out _ HB.out) ?_
                          rintro e w11 ⟨U1, c1, rfl, hs1, hb⟩
                          replace Hp := Lib.hid (Hp.out.go hb)
                          replace Hq := Lib.hid (Hq.out.go hb)
                          replace Hd := Lib.hid (Hd.out.go hb)
                          replace Hb := Lib.hid (Hb.out.go hb)
                          replace HB := Lib.hid (HB.out.trans (hb.mono HB.out.size))
                          replace HBX := Lib.hid (HBX.out.trans (hb.mono HBX.out.size))
                          have HS1 := Lib.hid hs1
                          clear hb hs1 HO1
                          clear p0 p1 p2 pl q0 q1 q2 ql d0 d1 d2 dl b0 b1 b2 bl
                          have p0 := Hp.out.c0; have p1 := Hp.out.c1; have p2 := Hp.out.c2; have pl := Hp.out.lt
                          have q0 := Hq.out.c0; have q1 := Hq.out.c1; have q2 := Hq.out.c2; have ql := Hq.out.lt
                          have d0 := Hd.out.c0; have d1 := Hd.out.c1; have d2 := Hd.out.c2; have dl := Hd.out.lt
                          have b0 := Hb.out.c0; have b1 := Hb.out.c1; have b2 := Hb.out.c2; have bl := Hb.out.lt
                          go_wp2_with fail
                          with_reducible refine Calls.mono (HO2.out _ HBX.out) ?_
                          rintro e w12 ⟨U2, c2, rfl, hs2, hb⟩
                          replace Hp := Lib.hid (Hp.out.go hb)
                          replace Hq := Lib.hid (Hq.out.go hb)
                          replace Hd := Lib.hid (Hd.out.go hb)
                          replace Hb := Lib.hid (Hb.out.go hb)
                          replace HB := Lib.hid (HB.out.trans (hb.mono HB.out.size))
                          replace HS1 := Lib.hid (HS1.out.below hb)
                          have HS2 := Lib.hid hs2
                          clear hb hs2 HO2 HBX
                          clear p0 p1 p2 pl q0 q1 q2 ql d0 d1 d2 dl b0 b1 b2 bl
                          have p0 := Hp.out.c0; have p1 := Hp.out.c1; have p2 := Hp.out.c2; have pl := Hp.out.lt
                          have q0 := Hq.out.c0; have q1 := Hq.out.c1; have q2 := Hq.out.c2; have ql := Hq.out.lt
                          have d0 := Hd.out.c0; have d1 := Hd.out.c1; have d2 := Hd.out.c2; have dl := Hd.out.lt
                          have b0 := Hb.out.c0; have b1 := Hb.out.c1; have b2 := Hb.out.c2; have bl := Hb.out.lt
                          go_wp2_with fail
                          with_reducible refine Calls.mono (HA.out _ _ _ _) ?_
                          rintro e w13 ⟨rfl, hb⟩
                          replace Hp := Lib.hid (Hp.out.go hb)
                          replace Hq := Lib.hid (Hq.out.go hb)
                          replace Hd := Lib.hid (Hd.out.go hb)
                          replace Hb := Lib.hid (Hb.out.go hb)
                          replace HB := Lib.hid (HB.out.trans (hb.mono HB.out.size))
                          replace HS1 := Lib.hid (HS1.out.below hb)
                          replace HS2 := Lib.hid (HS2.out.below hb)
                          clear hb 
                          clear p0 p1 p2 pl q0 q1 q2 ql d0 d1 d2 dl b0 b1 b2 bl
                          have p0 := Hp.out.c0; have p1 := Hp.out.c1; have p2 := Hp.out.c2; have pl := Hp.out.lt
                          have q0 := Hq.out.c0; have q1 := Hq.out.c1; have q2 := Hq.out.c2; have ql := Hq.out.lt
                          have d0 := Hd.out.c0; have d1 := Hd.out.c1; have d2 := Hd.out.c2; have dl := Hd.out.lt
                          have b0 := Hb.out.c0; have b1 := Hb.out.c1; have b2 := Hb.out.c2; have bl := Hb.out.lt
                          go_upto_region 19 with fail
                          obtain ⟨w14, hwa⟩ : ∃ wa, wa = w13.alloc (.cells #[.int .i64 ax, .int .i64 ay, .int .i64 az] 24) := ⟨_, rfl⟩
                          have hb : Below w13.heap.size w13 w14 := by rw [hwa]; exact (Below.refl _ _).alloc (Nat.le_refl _) _
                          have Ha : Hid (P3At w14 w13.heap.size ⟨ax, ay, az⟩) := Lib.hid (by rw [hwa]; exact heap_alloc_new w13 _)
                          rw [← hwa]
                          clear hwa
                          replace Hp := Lib.hid (Hp.out.go hb)
                          replace Hq := Lib.hid (Hq.out.go hb)
                          replace Hd := Lib.hid (Hd.out.go hb)
                          replace Hb := Lib.hid (Hb.out.go hb)
                          replace HB := Lib.hid (HB.out.trans (hb.mono HB.out.size))
                          replace HS1 := Lib.hid (HS1.out.below hb)
                          replace HS2 := Lib.hid (HS2.out.below hb)
                          clear hb
                          clear p0 p1 p2 pl q0 q1 q2 ql d0 d1 d2 dl b0 b1 b2 bl
                          generalize w13.heap.size = ga at *
                          have p0 := Hp.out.c0; have p1 := Hp.out.c1; have p2 := Hp.out.c2; have pl := Hp.out.lt
                          have q0 := Hq.out.c0; have q1 := Hq.out.c1; have q2 := Hq.out.c2; have ql := Hq.out.lt
                          have d0 := Hd.out.c0; have d1 := Hd.out.c1; have d2 := Hd.out.c2; have dl := Hd.out.lt
                          have b0 := Hb.out.c0; have b1 := Hb.out.c1; have b2 := Hb.out.c2; have bl := Hb.out.lt
                          have a0 := Ha.out.c0; have a1 := Ha.out.c1; have a2 := Ha.out.c2; have al := Ha.out.lt
                          go_wp2_with fail
                          with_reducible refine Calls.mono (HA.out _ _ _ _) ?_
                          rintro e w15 ⟨rfl, hb⟩
                          replace Hp := Lib.hid (Hp.out.go hb)
                          replace Hq := Lib.hid (Hq.out.go hb)
                          replace Hd := Lib.hid (Hd.out.go hb)
                          replace Hb := Lib.hid (Hb.out.go hb)
                          replace Ha := Lib.hid (Ha.out.go hb)
                          replace HB := Lib.hid (HB.out.trans (hb.mono HB.out.size))
                          replace HS1 := Lib.hid (HS1.out.below hb)
                          replace HS2 := Lib.hid (HS2.out.below hb)
                          clear hb HA
                          clear p0 p1 p2 pl q0 q1 q2 ql d0 d1 d2 dl b0 b1 b2 bl a0 a1 a2 al
                          have p0 := Hp.out.c0; have p1 := Hp.out.c1; have p2 := Hp.out.c2; have pl := Hp.out.lt
                          have q0 := Hq.out.c0; have q1 := Hq.out.c1; have q2 := Hq.out.c2; have ql := Hq.out.lt
                          have d0 := Hd.out.c0; have d1 := Hd.out.c1; have d2 := Hd.out.c2; have dl := Hd.out.lt
                          have b0 := Hb.out.c0; have b1 := Hb.out.c1; have b2 := Hb.out.c2; have bl := Hb.out.lt
                          have a0 := Ha.out.c0; have a1 := Ha.out.c1; have a2 := Ha.out.c2; have al := Ha.out.lt
                          go_upto_region 20 with fail
                          obtain ⟨w16, hwa⟩ : ∃ wa, wa = w15.alloc (.cells #[.int .i64 fx, .int .i64 fy, .int .i64 fz] 24) := ⟨_, rfl⟩
                          have hb : Below w15.heap.size w15 w16 := by rw [hwa]; exact (Below.refl _ _).alloc (Nat.le_refl _) _
                          have Hf : Hid (P3At w16 w15.heap.size ⟨fx, fy, fz⟩) := Lib.hid (by rw [hwa]; exact heap_alloc_new w15 _)
                          rw [← hwa]
                          clear hwa
                          replace Hp := Lib.hid (Hp.out.go hb)
                          replace Hq := Lib.hid (Hq.out.go hb)
                          replace Hd := Lib.hid (Hd.out.go hb)
                          replace Hb := Lib.hid (Hb.out.go hb)
                          replace Ha := Lib.hid (Ha.out.go hb)
                          replace HB := Lib.hid (HB.out.trans (hb.mono HB.out.size))
                          replace HS1 := Lib.hid (HS1.out.below hb)
                          replace HS2 := Lib.hid (HS2.out.below hb)
                          clear hb
                          clear p0 p1 p2 pl q0 q1 q2 ql d0 d1 d2 dl b0 b1 b2 bl a0 a1 a2 al
                          generalize w15.heap.size = gf at *
                          have p0 := Hp.out.c0; have p1 := Hp.out.c1; have p2 := Hp.out.c2; have pl := Hp.out.lt
                          have q0 := Hq.out.c0; have q1 := Hq.out.c1; have q2 := Hq.out.c2; have ql := Hq.out.lt
                          have d0 := Hd.out.c0; have d1 := Hd.out.c1; have d2 := Hd.out.c2; have dl := Hd.out.lt
                          have b0 := Hb.out.c0; have b1 := Hb.out.c1; have b2 := Hb.out.c2; have bl := Hb.out.lt
                          have a0 := Ha.out.c0; have a1 := Ha.out.c1; have a2 := Ha.out.c2; have al := Ha.out.lt
                          have f0 := Hf.out.c0; have f1 := Hf.out.c1; have f2 := Hf.out.c2; have fl := Hf.out.lt
                          go_wp2_with fail
                          go_ret
                          exact ⟨rfl, HB.out⟩
                        · obtain ⟨n1, hn1⟩ : ∃ n1, n1 = (solB l).length := ⟨_, rfl⟩
                          obtain ⟨n2, hn2⟩ : ∃ n2, n2 = (solB M).length := ⟨_, rfl⟩
                          have HO1 : Hid (∀ w', Below w.heap.size w w' → Calls Try.prog 24 #[.slice A l.length cap] w' (OfN11 n1 (solB l) 0 w')) := Lib.hid (fun w' hb => of_n11 (HROW.out.below hb) (by omega) e1 hn1)
                          have HO2 : Hid (∀ w', Below w10.heap.size w10 w' → Calls Try.prog 24 #[.slice AM M.length cm] w' (OfN11 n2 (solB M) 0 w')) := Lib.hid (fun w' hb => of_n11 (HMR.out.below hb) (by omega) e2 hn2)
                          have HN1 := Lib.hid hn1; have HN2 := Lib.hid hn2
                          have HSS := Lib.hid sS; have HST := Lib.hid sT
                          clear e1 e2 hn1 hn2 HMV sS sT
                          generalize solB M = T at *
                          generalize solB l = S at *
                          have HBX : Hid (Below w10.heap.size w10 w10) := Lib.hid (Below.refl _ _)
                          have p0 := Hp.out.c0; have p1 := Hp.out.c1; have p2 := Hp.out.c2; have pl := Hp.out.lt
                          have q0 := Hq.out.c0; have q1 := Hq.out.c1; have q2 := Hq.out.c2; have ql := Hq.out.lt
                          have d0 := Hd.out.c0; have d1 := Hd.out.c1; have d2 := Hd.out.c2; have dl := Hd.out.lt
                          have b0 := Hb.out.c0; have b1 := Hb.out.c1; have b2 := Hb.out.c2; have bl := Hb.out.lt
                          go_wp2_with fail
                          with_reducible refine Calls.mono (HO1.out _ HB.out) ?_
                          rintro e w11 ⟨U1, c1, rfl, hs1, hb⟩
                          replace Hp := Lib.hid (Hp.out.go hb)
                          replace Hq := Lib.hid (Hq.out.go hb)
                          replace Hd := Lib.hid (Hd.out.go hb)
                          replace Hb := Lib.hid (Hb.out.go hb)
                          replace HB := Lib.hid (HB.out.trans (hb.mono HB.out.size))
                          replace HBX := Lib.hid (HBX.out.trans (hb.mono HBX.out.size))
                          have HS1 := Lib.hid hs1
                          clear hb hs1 HO1
                          clear p0 p1 p2 pl q0 q1 q2 ql d0 d1 d2 dl b0 b1 b2 bl
                          have p0 := Hp.out.c0; have p1 := Hp.out.c1; have p2 := Hp.out.c2; have pl := Hp.out.lt
                          have q0 := Hq.out.c0; have q1 := Hq.out.c1; have q2 := Hq.out.c2; have ql := Hq.out.lt
                          have d0 := Hd.out.c0; have d1 := Hd.out.c1; have d2 := Hd.out.c2; have dl := Hd.out.lt
                          have b0 := Hb.out.c0; have b1 := Hb.out.c1; have b2 := Hb.out.c2; have bl := Hb.out.lt
                          go_wp2_with fail
                          with_reducible refine Calls.mono (HO2.out _ HBX.out) ?_
                          rintro e w12 ⟨U2, c2, rfl, hs2, hb⟩
                          replace Hp := Lib.hid (Hp.out.go hb)
                          replace Hq := Lib.hid (Hq.out.go hb)
                          replace Hd := Lib.hid (Hd.out.go hb)
                          replace Hb := Lib.hid (Hb.out.go hb)
                          replace HB := Lib.hid (HB.out.trans (hb.mono HB.out.size))
                          replace HS1 := Lib.hid (HS1.out.below hb)
                          have HS2 := Lib.hid hs2
                          clear hb hs2 HO2 HBX
                          clear p0 p1 p2 pl q0 q1 q2 ql d0 d1 d2 dl b0 b1 b2 bl
                          have p0 := Hp.out.c0; have p1 := Hp.out.c1; have p2 := Hp.out.c2; have pl := Hp.out.lt
                          have q0 := Hq.out.c0; have q1 := Hq.out.c1; have q2 := Hq.out.c2; have ql := Hq.out.lt
                          have d0 := Hd.out.c0; have d1 := Hd.out.c1; have d2 := Hd.out.c2; have dl := Hd.out.lt
                          have b0 := Hb.out.c0; have b1 := Hb.out.c1; have b2 := Hb.out.c2; have bl := Hb.out.lt
                          go_wp2_with fail
                          with_reducible refine Calls.mono (HA.out _ _ _ _) ?_
                          rintro e w13 ⟨rfl, hb⟩
                          replace Hp := Lib.hid (Hp.out.go hb)
                          replace Hq := Lib.hid (Hq.out.go hb)
                          replace Hd := Lib.hid (Hd.out.go hb)
                          replace Hb := Lib.hid (Hb.out.go hb)
                          replace HB := Lib.hid (HB.out.trans (hb.mono HB.out.size))
                          replace HS1 := Lib.hid (HS1.out.below hb)
                          replace HS2 := Lib.hid (HS2.out.below hb)
                          clear hb 
                          clear p0 p1 p2 pl q0 q1 q2 ql d0 d1 d2 dl b0 b1 b2 bl
                          have p0 := Hp.out.c0; have p1 := Hp.out.c1; have p2 := Hp.out.c2; have pl := Hp.out.lt
                          have q0 := Hq.out.c0; have q1 := Hq.out.c1; have q2 := Hq.out.c2; have ql := Hq.out.lt
                          have d0 := Hd.out.c0; have d1 := Hd.out.c1; have d2 := Hd.out.c2; have dl := Hd.out.lt
                          have b0 := Hb.out.c0; have b1 := Hb.out.c1; have b2 := Hb.out.c2; have bl := Hb.out.lt
                          go_upto_region 19 with fail
                          obtain ⟨w14, hwa⟩ : ∃ wa, wa = w13.alloc (.cells #[.int .i64 ax, .int .i64 ay, .int .i64 az] 24) := ⟨_, rfl⟩
                          have hb : Below w13.heap.size w13 w14 := by rw [hwa]; exact (Below.refl _ _).alloc (Nat.le_refl _) _
                          have Ha : Hid (P3At w14 w13.heap.size ⟨ax, ay, az⟩) := Lib.hid (by rw [hwa]; exact heap_alloc_new w13 _)
                          rw [← hwa]
                          clear hwa
                          replace Hp := Lib.hid (Hp.out.go hb)
                          replace Hq := Lib.hid (Hq.out.go hb)
                          replace Hd := Lib.hid (Hd.out.go hb)
                          replace Hb := Lib.hid (Hb.out.go hb)
                          replace HB := Lib.hid (HB.out.trans (hb.mono HB.out.size))
                          replace HS1 := Lib.hid (HS1.out.below hb)
                          replace HS2 := Lib.hid (HS2.out.below hb)
                          clear hb
                          clear p0 p1 p2 pl q0 q1 q2 ql d0 d1 d2 dl b0 b1 b2 bl
                          generalize w13.heap.size = ga at *
                          have p0 := Hp.out.c0; have p1 := Hp.out.c1; have p2 := Hp.out.c2; have pl := Hp.out.lt
                          have q0 := Hq.out.c0; have q1 := Hq.out.c1; have q2 := Hq.out.c2; have ql := Hq.out.lt
                          have d0 := Hd.out.c0; have d1 := Hd.out.c1; have d2 := Hd.out.c2; have dl := Hd.out.lt
                          have b0 := Hb.out.c0; have b1 := Hb.out.c1; have b2 := Hb.out.c2; have bl := Hb.out.lt
                          have a0 := Ha.out.c0; have a1 := Ha.out.c1; have a2 := Ha.out.c2; have al := Ha.out.lt
                          go_wp2_with fail
                          with_reducible refine Calls.mono (HA.out _ _ _ _) ?_
                          rintro e w15 ⟨rfl, hb⟩
                          replace Hp := Lib.hid (Hp.out.go hb)
                          replace Hq := Lib.hid (Hq.out.go hb)
                          replace Hd := Lib.hid (Hd.out.go hb)
                          replace Hb := Lib.hid (Hb.out.go hb)
                          replace Ha := Lib.hid (Ha.out.go hb)
                          replace HB := Lib.hid (HB.out.trans (hb.mono HB.out.size))
                          replace HS1 := Lib.hid (HS1.out.below hb)
                          replace HS2 := Lib.hid (HS2.out.below hb)
                          clear hb HA
                          clear p0 p1 p2 pl q0 q1 q2 ql d0 d1 d2 dl b0 b1 b2 bl a0 a1 a2 al
                          have p0 := Hp.out.c0; have p1 := Hp.out.c1; have p2 := Hp.out.c2; have pl := Hp.out.lt
                          have q0 := Hq.out.c0; have q1 := Hq.out.c1; have q2 := Hq.out.c2; have ql := Hq.out.lt
                          have d0 := Hd.out.c0; have d1 := Hd.out.c1; have d2 := Hd.out.c2; have dl := Hd.out.lt
                          have b0 := Hb.out.c0; have b1 := Hb.out.c1; have b2 := Hb.out.c2; have bl := Hb.out.lt
                          have a0 := Ha.out.c0; have a1 := Ha.out.c1; have a2 := Ha.out.c2; have al := Ha.out.lt
                          go_upto_region 20 with fail
                          obtain ⟨w16, hwa⟩ : ∃ wa, wa = w15.alloc (.cells #[.int .i64 fx, .int .i64 fy, .int .i64 fz] 24) := ⟨_, rfl⟩
                          have hb : Below w15.heap.size w15 w16 := by rw [hwa]; exact (Below.refl _ _).alloc (Nat.le_refl _) _
                          have Hf : Hid (P3At w16 w15.heap.size ⟨fx, fy, fz⟩) := Lib.hid (by rw [hwa]; exact heap_alloc_new w15 _)
                          rw [← hwa]
                          clear hwa
                          replace Hp := Lib.hid (Hp.out.go hb)
                          replace Hq := Lib.hid (Hq.out.go hb)
                          replace Hd := Lib.hid (Hd.out.go hb)
                          replace Hb := Lib.hid (Hb.out.go hb)
                          replace Ha := Lib.hid (Ha.out.go hb)
                          replace HB := Lib.hid (HB.out.trans (hb.mono HB.out.size))
                          replace HS1 := Lib.hid (HS1.out.below hb)
                          replace HS2 := Lib.hid (HS2.out.below hb)
                          clear hb
                          clear p0 p1 p2 pl q0 q1 q2 ql d0 d1 d2 dl b0 b1 b2 bl a0 a1 a2 al
                          generalize w15.heap.size = gf at *
                          by_cases va : PtOk ⟨ax, ay, az⟩
                          case neg =>
                            rw [decide_eq_false va] at HVA
                            clear HVF ea ef va HSS HST HCB
                            have p0 := Hp.out.c0; have p1 := Hp.out.c1; have p2 := Hp.out.c2; have pl := Hp.out.lt
                            have q0 := Hq.out.c0; have q1 := Hq.out.c1; have q2 := Hq.out.c2; have ql := Hq.out.lt
                            have d0 := Hd.out.c0; have d1 := Hd.out.c1; have d2 := Hd.out.c2; have dl := Hd.out.lt
                            have b0 := Hb.out.c0; have b1 := Hb.out.c1; have b2 := Hb.out.c2; have bl := Hb.out.lt
                            have a0 := Ha.out.c0; have a1 := Ha.out.c1; have a2 := Ha.out.c2; have al := Ha.out.lt
                            have f0 := Hf.out.c0; have f1 := Hf.out.c1; have f2 := Hf.out.c2; have fl := Hf.out.lt
                            go_wp2_with fail
                            with_reducible refine Calls.mono (HVA.out _) ?_
                            rintro e w17 ⟨rfl, hb⟩
                            replace Hp := Lib.hid (Hp.out.go hb)
                            replace Hq := Lib.hid (Hq.out.go hb)
                            replace Hd := Lib.hid (Hd.out.go hb)
                            replace Hb := Lib.hid (Hb.out.go hb)
                            replace Ha := Lib.hid (Ha.out.go hb)
                            replace Hf := Lib.hid (Hf.out.go hb)
                            replace HB := Lib.hid (HB.out.trans (hb.mono HB.out.size))
                            replace HS1 := Lib.hid (HS1.out.below hb)
                            replace HS2 := Lib.hid (HS2.out.below hb)
                            clear hb HVA
                            clear p0 p1 p2 pl q0 q1 q2 ql d0 d1 d2 dl b0 b1 b2 bl a0 a1 a2 al f0 f1 f2 fl
                            have p0 := Hp.out.c0; have p1 := Hp.out.c1; have p2 := Hp.out.c2; have pl := Hp.out.lt
                            have q0 := Hq.out.c0; have q1 := Hq.out.c1; have q2 := Hq.out.c2; have ql := Hq.out.lt
                            have d0 := Hd.out.c0; have d1 := Hd.out.c1; have d2 := Hd.out.c2; have dl := Hd.out.lt
                            have b0 := Hb.out.c0; have b1 := Hb.out.c1; have b2 := Hb.out.c2; have bl := Hb.out.lt
                            have a0 := Ha.out.c0; have a1 := Ha.out.c1; have a2 := Ha.out.c2; have al := Ha.out.lt
                            have f0 := Hf.out.c0; have f1 := Hf.out.c1; have f2 := Hf.out.c2; have fl := Hf.out.lt
                            go_wp2_with fail
                            go_ret
                            exact ⟨rfl, HB.out⟩
                          case pos =>
                            rw [decide_eq_true va] at HVA
                            have p0 := Hp.out.c0; have p1 := Hp.out.c1; have p2 := Hp.out.c2; have pl := Hp.out.lt
                            have q0 := Hq.out.c0; have q1 := Hq.out.c1; have q2 := Hq.out.c2; have ql := Hq.out.lt
                            have d0 := Hd.out.c0; have d1 := Hd.out.c1; have d2 := Hd.out.c2; have dl := Hd.out.lt
                            have b0 := Hb.out.c0; have b1 := Hb.out.c1; have b2 := Hb.out.c2; have bl := Hb.out.lt
                            have a0 := Ha.out.c0; have a1 := Ha.out.c1; have a2 := Ha.out.c2; have al := Ha.out.lt
                            have f0 := Hf.out.c0; have f1 := Hf.out.c1; have f2 := Hf.out.c2; have fl := Hf.out.lt
                            go_wp2_with fail
                            with_reducible refine Calls.mono (HVA.out _) ?_
                            rintro e w17 ⟨rfl, hb⟩
                            replace Hp := Lib.hid (Hp.out.go hb)
                            replace Hq := Lib.hid (Hq.out.go hb)
                            replace Hd := Lib.hid (Hd.out.go hb)
                            replace Hb := Lib.hid (Hb.out.go hb)
                            replace Ha := Lib.hid (Ha.out.go hb)
                            replace Hf := Lib.hid (Hf.out.go hb)
                            replace HB := Lib.hid (HB.out.trans (hb.mono HB.out.size))
                            replace HS1 := Lib.hid (HS1.out.below hb)
                            replace HS2 := Lib.hid (HS2.out.below hb)
                            clear hb HVA
                            clear p0 p1 p2 pl q0 q1 q2 ql d0 d1 d2 dl b0 b1 b2 bl a0 a1 a2 al f0 f1 f2 fl
                            by_cases vf : PtOk ⟨fx, fy, fz⟩
                            case neg =>
                              rw [decide_eq_false vf] at HVF
                              clear ea ef va vf HSS HST HCB
                              have p0 := Hp.out.c0; have p1 := Hp.out.c1; have p2 := Hp.out.c2; have pl := Hp.out.lt
                              have q0 := Hq.out.c0; have q1 := Hq.out.c1; have q2 := Hq.out.c2; have ql := Hq.out.lt
                              have d0 := Hd.out.c0; have d1 := Hd.out.c1; have d2 := Hd.out.c2; have dl := Hd.out.lt
                              have b0 := Hb.out.c0; have b1 := Hb.out.c1; have b2 := Hb.out.c2; have bl := Hb.out.lt
                              have a0 := Ha.out.c0; have a1 := Ha.out.c1; have a2 := Ha.out.c2; have al := Ha.out.lt
                              have f0 := Hf.out.c0; have f1 := Hf.out.c1; have f2 := Hf.out.c2; have fl := Hf.out.lt
                              go_wp2_with fail
                              with_reducible refine Calls.mono (HVF.out _) ?_
                              rintro e w18 ⟨rfl, hb⟩
                              replace Hp := Lib.hid (Hp.out.go hb)
                              replace Hq := Lib.hid (Hq.out.go hb)
                              replace Hd := Lib.hid (Hd.out.go hb)
                              replace Hb := Lib.hid (Hb.out.go hb)
                              replace Ha := Lib.hid (Ha.out.go hb)
                              replace Hf := Lib.hid (Hf.out.go hb)
                              replace HB := Lib.hid (HB.out.trans (hb.mono HB.out.size))
                              replace HS1 := Lib.hid (HS1.out.below hb)
                              replace HS2 := Lib.hid (HS2.out.below hb)
                              clear hb HVF
                              clear p0 p1 p2 pl q0 q1 q2 ql d0 d1 d2 dl b0 b1 b2 bl a0 a1 a2 al f0 f1 f2 fl
                              have p0 := Hp.out.c0; have p1 := Hp.out.c1; have p2 := Hp.out.c2; have pl := Hp.out.lt
                              have q0 := Hq.out.c0; have q1 := Hq.out.c1; have q2 := Hq.out.c2; have ql := Hq.out.lt
                              have d0 := Hd.out.c0; have d1 := Hd.out.c1; have d2 := Hd.out.c2; have dl := Hd.out.lt
                              have b0 := Hb.out.c0; have b1 := Hb.out.c1; have b2 := Hb.out.c2; have bl := Hb.out.lt
                              have a0 := Ha.out.c0; have a1 := Ha.out.c1; have a2 := Ha.out.c2; have al := Ha.out.lt
                              have f0 := Hf.out.c0; have f1 := Hf.out.c1; have f2 := Hf.out.c2; have fl := Hf.out.lt
                              go_wp2_with fail
                              go_ret
                              exact ⟨rfl, HB.out⟩
                            case pos =>
                              rw [decide_eq_true vf] at HVF
                              have HBK : Hid (bkB S p q = bkB T ⟨ax, ay, az⟩ ⟨fx, fy, fz⟩) := Lib.hid (by rw [← ea, ← ef]; exact bk_move HSS.out HST.out HCB.out HCP.out HCQ.out (by rw [ea]; exact va) (by rw [ef]; exact vf))
                              have HRK : Hid (ryB S p d = ryB T ⟨ax, ay, az⟩ d) := Lib.hid (by rw [← ea]; exact ry_move HSS.out HST.out HCB.out HCP.out (by rw [ea]; exact va))
                              clear ea ef va vf HSS HST HCB
                              have p0 := Hp.out.c0; have p1 := Hp.out.c1; have p2 := Hp.out.c2; have pl := Hp.out.lt
                              have q0 := Hq.out.c0; have q1 := Hq.out.c1; have q2 := Hq.out.c2; have ql := Hq.out.lt
                              have d0 := Hd.out.c0; have d1 := Hd.out.c1; have d2 := Hd.out.c2; have dl := Hd.out.lt
                              have b0 := Hb.out.c0; have b1 := Hb.out.c1; have b2 := Hb.out.c2; have bl := Hb.out.lt
                              have a0 := Ha.out.c0; have a1 := Ha.out.c1; have a2 := Ha.out.c2; have al := Ha.out.lt
                              have f0 := Hf.out.c0; have f1 := Hf.out.c1; have f2 := Hf.out.c2; have fl := Hf.out.lt
                              go_wp2_with fail
                              with_reducible refine Calls.mono (HVF.out _) ?_
                              rintro e w18 ⟨rfl, hb⟩
                              replace Hp := Lib.hid (Hp.out.go hb)
                              replace Hq := Lib.hid (Hq.out.go hb)
                              replace Hd := Lib.hid (Hd.out.go hb)
                              replace Hb := Lib.hid (Hb.out.go hb)
                              replace Ha := Lib.hid (Ha.out.go hb)
                              replace Hf := Lib.hid (Hf.out.go hb)
                              replace HB := Lib.hid (HB.out.trans (hb.mono HB.out.size))
                              replace HS1 := Lib.hid (HS1.out.below hb)
                              replace HS2 := Lib.hid (HS2.out.below hb)
                              clear hb HVF
                              clear p0 p1 p2 pl q0 q1 q2 ql d0 d1 d2 dl b0 b1 b2 bl a0 a1 a2 al f0 f1 f2 fl
                              go_upto_region 22 with fail
                              have E5 := Lib.hid (Tf11.of Hp.out Hq.out Hd.out Ha.out Hf.out)
                              have G1 := Lib.hid (fun w' (hh : Below w18.heap.size w18 w') => blk_nd U1 c1 n1 S HN1.out p.x p.y p.z q.x q.y q.z w' (HS1.out.below hh))
                              have G2 := Lib.hid (fun w' (hh : Below w18.heap.size w18 w') => blk_nd U2 c2 n2 T HN2.out ax ay az fx fy fz w' (HS2.out.below hh))
                              have G3 := Lib.hid (fun w' (hh : Below w18.heap.size w18 w') => ray_nd U1 c1 n1 S HN1.out p.x p.y p.z d.x d.y d.z w' (HS1.out.below hh))
                              have G4 := Lib.hid (fun w' (hh : Below w18.heap.size w18 w') => ray_nd U2 c2 n2 T HN2.out ax ay az d.x d.y d.z w' (HS2.out.below hh))
                              rw [show bkB S ⟨p.x, p.y, p.z⟩ ⟨q.x, q.y, q.z⟩ = bkB T ⟨ax, ay, az⟩ ⟨fx, fy, fz⟩ from HBK.out] at G1
                              rw [show ryB S ⟨p.x, p.y, p.z⟩ ⟨d.x, d.y, d.z⟩ = ryB T ⟨ax, ay, az⟩ ⟨d.x, d.y, d.z⟩ from HRK.out] at G3
                              clear HBK HRK HN1 HN2 HS1 HS2
                              generalize bkB T ⟨ax, ay, az⟩ ⟨fx, fy, fz⟩ = bb at *
                              generalize ryB T ⟨ax, ay, az⟩ ⟨d.x, d.y, d.z⟩ = rr at *
                              have eb : (bb == bb) = true := by simp
                              have er : (rr == rr) = true := by simp
                              obtain ⟨x0, x1, x2, x3, x4, x5, x6, x7, x8, x9, x10, x11, x12, x13, x14, l0, l1, l2, l3, l4, _⟩ := E5.out
                              simp only at x9 x10 x11 x12 x13 x14
                              refine wp_region_held_drew (S := (fun w' => w'.cell? ⟨gp, 0, none⟩ = some (.int .i64 p.x) ∧ w'.cell? ⟨gp, 1, none⟩ = some (.int .i64 p.y) ∧ w'.cell? ⟨gp, 2, none⟩ = some (.int .i64 p.z) ∧ w'.cell? ⟨gq, 0, none⟩ = some (.int .i64 q.x) ∧ w'.cell? ⟨gq, 1, none⟩ = some (.int .i64 q.y) ∧ w'.cell? ⟨gq, 2, none⟩ = some (.int .i64 q.z) ∧ w'.cell? ⟨gd, 0, none⟩ = some (.int .i64 d.x) ∧ w'.cell? ⟨gd, 1, none⟩ = some (.int .i64 d.y) ∧ w'.cell? ⟨gd, 2, none⟩ = some (.int .i64 d.z) ∧ w'.cell? ⟨ga, 0, none⟩ = some (.int .i64 ax) ∧ w'.cell? ⟨ga, 1, none⟩ = some (.int .i64 ay) ∧ w'.cell? ⟨ga, 2, none⟩ = some (.int .i64 az) ∧ w'.cell? ⟨gf, 0, none⟩ = some (.int .i64 fx) ∧ w'.cell? ⟨gf, 1, none⟩ = some (.int .i64 fy) ∧ w'.cell? ⟨gf, 2, none⟩ = some (.int .i64 fz) ∧ gp < w'.heap.size ∧ gq < w'.heap.size ∧ gd < w'.heap.size ∧ ga < w'.heap.size ∧ gf < w'.heap.size ∧ Hid (Below w18.heap.size w18 w'))) (by kernel_rfl) ?_ (fun hHeld => ?_)
                              · exact Tf11.drewN E5.out 1
                              refine wpAnyH_take (i := 0) (oi := { dst := some 192, op := Go.Op.move (Go.Operand.tmp 11), type := 4, pos := "law.go:156", after := #[], guard := none }) (v := ?_) rfl (by kernel_rfl) (by kernel_rfl) (by kernel_rfl) (fun _ _ _ h => h) (Or.inl ⟨by rfl, ?_⟩) (by assumption) ?_
                              rotate_left
                              · (intro w hSw; (try dsimp only at hSw); go_simp); try with_reducible rfl
                              try simp only [Act.put, List.setIfInBounds_toArray, List.set_cons_zero, List.set_cons_succ]
                              refine wpAnyH_take (i := 1) (oi := { dst := some 193, op := Go.Op.move (Go.Operand.tmp 192), type := 4, pos := "law.go:156", after := #[{ on := 0, ground := Go.Ground.data }], guard := none }) (v := ?_) rfl (by kernel_rfl) (by kernel_rfl) (by kernel_rfl) (fun _ _ _ h => h) (Or.inl ⟨by rfl, ?_⟩) (by assumption) ?_
                              rotate_left
                              · (intro w hSw; (try dsimp only at hSw); go_simp); try with_reducible rfl
                              try simp only [Act.put, List.setIfInBounds_toArray, List.set_cons_zero, List.set_cons_succ]
                              refine wpAnyH_take (i := 2) (oi := { dst := some 194, op := Go.Op.move (Go.Operand.tmp 17), type := 22, pos := "law.go:156", after := #[{ on := 1, ground := Go.Ground.guard }], guard := some (1, true) }) (v := ?_) rfl (by kernel_rfl) (by kernel_rfl) (by kernel_rfl) (fun _ _ _ h => h) (Or.inl ⟨by rfl, ?_⟩) (by assumption) ?_
                              rotate_left
                              · (intro w hSw; (try dsimp only at hSw); go_simp); try with_reducible rfl
                              try simp only [Act.put, List.setIfInBounds_toArray, List.set_cons_zero, List.set_cons_succ]
                              refine wpAnyH_take (i := 3) (oi := { dst := some 195, op := Go.Op.load 24 (Go.Operand.tmp 6), type := 24, pos := "law.go:156", after := #[{ on := 1, ground := Go.Ground.guard }], guard := some (1, true) }) (v := ?_) rfl (by kernel_rfl) (by kernel_rfl) (by kernel_rfl) (fun _ _ _ h => h) (Or.inl ⟨by rfl, ?_⟩) (by assumption) ?_
                              rotate_left
                              · (intro w hSw; (try dsimp only at hSw); go_simp); try with_reducible rfl
                              try simp only [Act.put, List.setIfInBounds_toArray, List.set_cons_zero, List.set_cons_succ]
                              refine wpAnyH_take (i := 4) (oi := { dst := some 196, op := Go.Op.load 24 (Go.Operand.tmp 7), type := 24, pos := "law.go:156", after := #[{ on := 1, ground := Go.Ground.guard }], guard := some (1, true) }) (v := ?_) rfl (by kernel_rfl) (by kernel_rfl) (by kernel_rfl) (fun _ _ _ h => h) (Or.inl ⟨by rfl, ?_⟩) (by assumption) ?_
                              rotate_left
                              · (intro w hSw; (try dsimp only at hSw); go_simp); try with_reducible rfl
                              try simp only [Act.put, List.setIfInBounds_toArray, List.set_cons_zero, List.set_cons_succ]
                              refine wpAnyH_take (i := 6) (oi := { dst := some 198, op := Go.Op.move (Go.Operand.tmp 19), type := 22, pos := "law.go:156", after := #[{ on := 1, ground := Go.Ground.guard }], guard := some (1, true) }) (v := ?_) rfl (by kernel_rfl) (by kernel_rfl) (by kernel_rfl) (fun _ _ _ h => h) (Or.inl ⟨by rfl, ?_⟩) (by assumption) ?_
                              rotate_left
                              · (intro w hSw; (try dsimp only at hSw); go_simp); try with_reducible rfl
                              try simp only [Act.put, List.setIfInBounds_toArray, List.set_cons_zero, List.set_cons_succ]
                              refine wpAnyH_take (i := 7) (oi := { dst := some 199, op := Go.Op.load 24 (Go.Operand.tmp 21), type := 24, pos := "law.go:156", after := #[{ on := 1, ground := Go.Ground.guard }], guard := some (1, true) }) (v := ?_) rfl (by kernel_rfl) (by kernel_rfl) (by kernel_rfl) (fun _ _ _ h => h) (Or.inl ⟨by rfl, ?_⟩) (by assumption) ?_
                              rotate_left
                              · (intro w hSw; (try dsimp only at hSw); go_simp); try with_reducible rfl
                              try simp only [Act.put, List.setIfInBounds_toArray, List.set_cons_zero, List.set_cons_succ]
                              refine wpAnyH_take (i := 8) (oi := { dst := some 200, op := Go.Op.load 24 (Go.Operand.tmp 22), type := 24, pos := "law.go:156", after := #[{ on := 1, ground := Go.Ground.guard }], guard := some (1, true) }) (v := ?_) rfl (by kernel_rfl) (by kernel_rfl) (by kernel_rfl) (fun _ _ _ h => h) (Or.inl ⟨by rfl, ?_⟩) (by assumption) ?_
                              rotate_left
                              · (intro w hSw; (try dsimp only at hSw); go_simp); try with_reducible rfl
                              try simp only [Act.put, List.setIfInBounds_toArray, List.set_cons_zero, List.set_cons_succ]
                              refine wpAnyH_ready (rs := [5]) (by kernel_rfl) (by simp) ?_
                              refine (AllReadyH.cons (o := { dst := some 197, op := Go.Op.call { callee := Go.Callee.value (Go.Operand.func 11), args := #[Go.Operand.tmp 194, Go.Operand.tmp 195, Go.Operand.tmp 196], argTypes := #[22, 24, 24] }, type := 4, pos := "law.go:156", after := #[{ on := 2, ground := Go.Ground.data }, { on := 3, ground := Go.Ground.data }, { on := 4, ground := Go.Ground.data }, { on := 1, ground := Go.Ground.chain }, { on := 1, ground := Go.Ground.guard }], guard := some (1, true) }) rfl (fun K0 hK => ?_) AllReadyH.nil)
                              have hbq9 := Tf11.bel (g := gp) (gq := gq) (gd := gd) (ga := ga) (gb := gf) (p := p) (q := q) (d := d) (a := ⟨ax, ay, az⟩) (b := ⟨fx, fy, fz⟩) (w0 := w18) hHeld
                              go_simp
                              go_at_call 11
                              with_reducible refine Calls.mono (G1.out _ hbq9) ?_
                              rintro e w95 ⟨rfl, hb⟩
                              try go_wp2_with fail
                              refine hK.out _ _ (Tf11.go (g := gp) (gq := gq) (gd := gd) (ga := ga) (gb := gf) (p := p) (q := q) (d := d) (a := ⟨ax, ay, az⟩) (b := ⟨fx, fy, fz⟩) (w0 := w18) (by assumption) hb) (fun hHeld2 => ?_)
                              clear hK K0 hHeld hb hbq9
                              have hHeld := hHeld2; clear hHeld2
                              try simp only [Act.put, List.setIfInBounds_toArray, List.set_cons_zero, List.set_cons_succ]
                              refine wpAnyH_ready (rs := [9]) (by kernel_rfl) (by simp) ?_
                              refine (AllReadyH.cons (o := { dst := some 201, op := Go.Op.call { callee := Go.Callee.value (Go.Operand.func 11), args := #[Go.Operand.tmp 198, Go.Operand.tmp 199, Go.Operand.tmp 200], argTypes := #[22, 24, 24] }, type := 4, pos := "law.go:156", after := #[{ on := 6, ground := Go.Ground.data }, { on := 7, ground := Go.Ground.data }, { on := 8, ground := Go.Ground.data }, { on := 5, ground := Go.Ground.chain }, { on := 1, ground := Go.Ground.guard }], guard := some (1, true) }) rfl (fun K1 hK => ?_) AllReadyH.nil)
                              have hbq9 := Tf11.bel (g := gp) (gq := gq) (gd := gd) (ga := ga) (gb := gf) (p := p) (q := q) (d := d) (a := ⟨ax, ay, az⟩) (b := ⟨fx, fy, fz⟩) (w0 := w18) hHeld
                              go_simp
                              go_at_call 11
                              with_reducible refine Calls.mono (G2.out _ hbq9) ?_
                              rintro e w99 ⟨rfl, hb⟩
                              try go_wp2_with fail
                              refine hK.out _ _ (Tf11.go (g := gp) (gq := gq) (gd := gd) (ga := ga) (gb := gf) (p := p) (q := q) (d := d) (a := ⟨ax, ay, az⟩) (b := ⟨fx, fy, fz⟩) (w0 := w18) (by assumption) hb) (fun hHeld2 => ?_)
                              clear hK K1 hHeld hb hbq9
                              have hHeld := hHeld2; clear hHeld2
                              try simp only [Act.put, List.setIfInBounds_toArray, List.set_cons_zero, List.set_cons_succ]
                              refine wpAnyH_take (i := 10) (oi := { dst := some 202, op := Go.Op.binOp Go.BinOp.eql 4 (Go.Operand.tmp 197) (Go.Operand.tmp 201) 4, type := 4, pos := "law.go:156", after := #[{ on := 5, ground := Go.Ground.data }, { on := 9, ground := Go.Ground.data }, { on := 1, ground := Go.Ground.guard }], guard := some (1, true) }) (v := ?_) rfl (by kernel_rfl) (by kernel_rfl) (by kernel_rfl) (fun _ _ _ h => h) (Or.inl ⟨by rfl, ?_⟩) (by assumption) ?_
                              rotate_left
                              · (intro w hSw; (try dsimp only at hSw); go_simp); try with_reducible rfl
                              try simp only [Act.put, List.setIfInBounds_toArray, List.set_cons_zero, List.set_cons_succ]
                              refine wpAnyH_take (i := 11) (oi := { dst := some 203, op := Go.Op.pick (Go.Operand.tmp 193) (Go.Operand.tmp 202) (Go.Operand.const (Go.Value.bool false)), type := 4, pos := "law.go:156", after := #[{ on := 1, ground := Go.Ground.data }, { on := 10, ground := Go.Ground.data }], guard := none }) (v := ?_) rfl (by kernel_rfl) (by kernel_rfl) (by kernel_rfl) (fun _ _ _ h => h) (Or.inl ⟨by rfl, ?_⟩) (by assumption) ?_
                              rotate_left
                              · (intro w hSw; (try dsimp only at hSw); go_simp); try with_reducible rfl
                              try simp only [Act.put, List.setIfInBounds_toArray, List.set_cons_zero, List.set_cons_succ]
                              refine wpAnyH_take (i := 12) (oi := { dst := some 204, op := Go.Op.move (Go.Operand.tmp 203), type := 4, pos := "law.go:156", after := #[{ on := 11, ground := Go.Ground.data }, { on := 9, ground := Go.Ground.chain }], guard := none }) (v := ?_) rfl (by kernel_rfl) (by kernel_rfl) (by kernel_rfl) (fun _ _ _ h => h) (Or.inl ⟨by rfl, ?_⟩) (by assumption) ?_
                              rotate_left
                              · (intro w hSw; (try dsimp only at hSw); go_simp); try with_reducible rfl
                              try simp only [Act.put, List.setIfInBounds_toArray, List.set_cons_zero, List.set_cons_succ]
                              refine wpAnyH_take (i := 13) (oi := { dst := some 205, op := Go.Op.move (Go.Operand.tmp 17), type := 22, pos := "law.go:156", after := #[{ on := 12, ground := Go.Ground.guard }], guard := some (12, true) }) (v := ?_) rfl (by kernel_rfl) (by kernel_rfl) (by kernel_rfl) (fun _ _ _ h => h) (Or.inl ⟨by rfl, ?_⟩) (by assumption) ?_
                              rotate_left
                              · (intro w hSw; (try dsimp only at hSw); go_simp); try with_reducible rfl
                              try simp only [Act.put, List.setIfInBounds_toArray, List.set_cons_zero, List.set_cons_succ]
                              refine wpAnyH_take (i := 14) (oi := { dst := some 206, op := Go.Op.load 24 (Go.Operand.tmp 6), type := 24, pos := "law.go:156", after := #[{ on := 12, ground := Go.Ground.guard }], guard := some (12, true) }) (v := ?_) rfl (by kernel_rfl) (by kernel_rfl) (by kernel_rfl) (fun _ _ _ h => h) (Or.inl ⟨by rfl, ?_⟩) (by assumption) ?_
                              rotate_left
                              · (intro w hSw; (try dsimp only at hSw); go_simp); try with_reducible rfl
                              try simp only [Act.put, List.setIfInBounds_toArray, List.set_cons_zero, List.set_cons_succ]
                              refine wpAnyH_take (i := 15) (oi := { dst := some 207, op := Go.Op.load 24 (Go.Operand.tmp 8), type := 24, pos := "law.go:156", after := #[{ on := 12, ground := Go.Ground.guard }], guard := some (12, true) }) (v := ?_) rfl (by kernel_rfl) (by kernel_rfl) (by kernel_rfl) (fun _ _ _ h => h) (Or.inl ⟨by rfl, ?_⟩) (by assumption) ?_
                              rotate_left
                              · (intro w hSw; (try dsimp only at hSw); go_simp); try with_reducible rfl
                              try simp only [Act.put, List.setIfInBounds_toArray, List.set_cons_zero, List.set_cons_succ]
                              refine wpAnyH_take (i := 17) (oi := { dst := some 209, op := Go.Op.move (Go.Operand.tmp 19), type := 22, pos := "law.go:156", after := #[{ on := 12, ground := Go.Ground.guard }], guard := some (12, true) }) (v := ?_) rfl (by kernel_rfl) (by kernel_rfl) (by kernel_rfl) (fun _ _ _ h => h) (Or.inl ⟨by rfl, ?_⟩) (by assumption) ?_
                              rotate_left
                              · (intro w hSw; (try dsimp only at hSw); go_simp); try with_reducible rfl
                              try simp only [Act.put, List.setIfInBounds_toArray, List.set_cons_zero, List.set_cons_succ]
                              refine wpAnyH_take (i := 18) (oi := { dst := some 210, op := Go.Op.load 24 (Go.Operand.tmp 21), type := 24, pos := "law.go:156", after := #[{ on := 12, ground := Go.Ground.guard }], guard := some (12, true) }) (v := ?_) rfl (by kernel_rfl) (by kernel_rfl) (by kernel_rfl) (fun _ _ _ h => h) (Or.inl ⟨by rfl, ?_⟩) (by assumption) ?_
                              rotate_left
                              · (intro w hSw; (try dsimp only at hSw); go_simp); try with_reducible rfl
                              try simp only [Act.put, List.setIfInBounds_toArray, List.set_cons_zero, List.set_cons_succ]
                              refine wpAnyH_take (i := 19) (oi := { dst := some 211, op := Go.Op.load 24 (Go.Operand.tmp 8), type := 24, pos := "law.go:156", after := #[{ on := 12, ground := Go.Ground.guard }], guard := some (12, true) }) (v := ?_) rfl (by kernel_rfl) (by kernel_rfl) (by kernel_rfl) (fun _ _ _ h => h) (Or.inl ⟨by rfl, ?_⟩) (by assumption) ?_
                              rotate_left
                              · (intro w hSw; (try dsimp only at hSw); go_simp); try with_reducible rfl
                              try simp only [Act.put, List.setIfInBounds_toArray, List.set_cons_zero, List.set_cons_succ]
                              refine wpAnyH_ready (rs := [16]) (by kernel_rfl) (by simp) ?_
                              refine (AllReadyH.cons (o := { dst := some 208, op := Go.Op.call { callee := Go.Callee.value (Go.Operand.func 13), args := #[Go.Operand.tmp 205, Go.Operand.tmp 206, Go.Operand.tmp 207], argTypes := #[22, 24, 24] }, type := 4, pos := "law.go:156", after := #[{ on := 13, ground := Go.Ground.data }, { on := 14, ground := Go.Ground.data }, { on := 15, ground := Go.Ground.data }, { on := 12, ground := Go.Ground.chain }, { on := 12, ground := Go.Ground.guard }], guard := some (12, true) }) rfl (fun K2 hK => ?_) AllReadyH.nil)
                              have hbq9 := Tf11.bel (g := gp) (gq := gq) (gd := gd) (ga := ga) (gb := gf) (p := p) (q := q) (d := d) (a := ⟨ax, ay, az⟩) (b := ⟨fx, fy, fz⟩) (w0 := w18) hHeld
                              go_simp
                              go_at_call 13
                              with_reducible refine Calls.mono (G3.out _ hbq9) ?_
                              rintro e w916 ⟨rfl, hb⟩
                              try go_wp2_with fail
                              refine hK.out _ _ (Tf11.go (g := gp) (gq := gq) (gd := gd) (ga := ga) (gb := gf) (p := p) (q := q) (d := d) (a := ⟨ax, ay, az⟩) (b := ⟨fx, fy, fz⟩) (w0 := w18) (by assumption) hb) (fun hHeld2 => ?_)
                              clear hK K2 hHeld hb hbq9
                              have hHeld := hHeld2; clear hHeld2
                              try simp only [Act.put, List.setIfInBounds_toArray, List.set_cons_zero, List.set_cons_succ]
                              refine wpAnyH_ready (rs := [20]) (by kernel_rfl) (by simp) ?_
                              refine (AllReadyH.cons (o := { dst := some 212, op := Go.Op.call { callee := Go.Callee.value (Go.Operand.func 13), args := #[Go.Operand.tmp 209, Go.Operand.tmp 210, Go.Operand.tmp 211], argTypes := #[22, 24, 24] }, type := 4, pos := "law.go:156", after := #[{ on := 17, ground := Go.Ground.data }, { on := 18, ground := Go.Ground.data }, { on := 19, ground := Go.Ground.data }, { on := 16, ground := Go.Ground.chain }, { on := 12, ground := Go.Ground.guard }], guard := some (12, true) }) rfl (fun K3 hK => ?_) AllReadyH.nil)
                              have hbq9 := Tf11.bel (g := gp) (gq := gq) (gd := gd) (ga := ga) (gb := gf) (p := p) (q := q) (d := d) (a := ⟨ax, ay, az⟩) (b := ⟨fx, fy, fz⟩) (w0 := w18) hHeld
                              go_simp
                              go_at_call 13
                              with_reducible refine Calls.mono (G4.out _ hbq9) ?_
                              rintro e w920 ⟨rfl, hb⟩
                              try go_wp2_with fail
                              refine hK.out _ _ (Tf11.go (g := gp) (gq := gq) (gd := gd) (ga := ga) (gb := gf) (p := p) (q := q) (d := d) (a := ⟨ax, ay, az⟩) (b := ⟨fx, fy, fz⟩) (w0 := w18) (by assumption) hb) (fun hHeld2 => ?_)
                              clear hK K3 hHeld hb hbq9
                              have hHeld := hHeld2; clear hHeld2
                              try simp only [Act.put, List.setIfInBounds_toArray, List.set_cons_zero, List.set_cons_succ]
                              refine wpAnyH_take (i := 21) (oi := { dst := some 213, op := Go.Op.binOp Go.BinOp.eql 4 (Go.Operand.tmp 208) (Go.Operand.tmp 212) 4, type := 4, pos := "law.go:156", after := #[{ on := 16, ground := Go.Ground.data }, { on := 20, ground := Go.Ground.data }, { on := 12, ground := Go.Ground.guard }], guard := some (12, true) }) (v := ?_) rfl (by kernel_rfl) (by kernel_rfl) (by kernel_rfl) (fun _ _ _ h => h) (Or.inl ⟨by rfl, ?_⟩) (by assumption) ?_
                              rotate_left
                              · (intro w hSw; (try dsimp only at hSw); go_simp); try with_reducible rfl
                              try simp only [Act.put, List.setIfInBounds_toArray, List.set_cons_zero, List.set_cons_succ]
                              refine wpAnyH_take (i := 22) (oi := { dst := some 214, op := Go.Op.pick (Go.Operand.tmp 204) (Go.Operand.tmp 213) (Go.Operand.const (Go.Value.bool false)), type := 4, pos := "law.go:156", after := #[{ on := 12, ground := Go.Ground.data }, { on := 21, ground := Go.Ground.data }], guard := none }) (v := ?_) rfl (by kernel_rfl) (by kernel_rfl) (by kernel_rfl) (fun _ _ _ h => h) (Or.inl ⟨by rfl, ?_⟩) (by assumption) ?_
                              rotate_left
                              · (intro w hSw; (try dsimp only at hSw); go_simp); try with_reducible rfl
                              try simp only [Act.put, List.setIfInBounds_toArray, List.set_cons_zero, List.set_cons_succ]
                              refine wpAnyH_take (i := 23) (oi := { dst := some 10, op := Go.Op.assign (Go.Operand.tmp 214), type := 4, pos := "law.go:156", after := #[{ on := 22, ground := Go.Ground.data }, { on := 20, ground := Go.Ground.chain }, { on := 0, ground := Go.Ground.phase }, { on := 1, ground := Go.Ground.phase }, { on := 2, ground := Go.Ground.phase }, { on := 3, ground := Go.Ground.phase }, { on := 4, ground := Go.Ground.phase }, { on := 5, ground := Go.Ground.phase }, { on := 6, ground := Go.Ground.phase }, { on := 7, ground := Go.Ground.phase }, { on := 8, ground := Go.Ground.phase }, { on := 9, ground := Go.Ground.phase }, { on := 10, ground := Go.Ground.phase }, { on := 11, ground := Go.Ground.phase }, { on := 12, ground := Go.Ground.phase }, { on := 13, ground := Go.Ground.phase }, { on := 14, ground := Go.Ground.phase }, { on := 15, ground := Go.Ground.phase }, { on := 16, ground := Go.Ground.phase }, { on := 17, ground := Go.Ground.phase }, { on := 18, ground := Go.Ground.phase }, { on := 19, ground := Go.Ground.phase }, { on := 20, ground := Go.Ground.phase }, { on := 21, ground := Go.Ground.phase }, { on := 22, ground := Go.Ground.phase }], guard := none }) (v := ?_) rfl (by kernel_rfl) (by kernel_rfl) (by kernel_rfl) (fun _ _ _ h => h) (Or.inl ⟨by rfl, ?_⟩) (by assumption) ?_
                              rotate_left
                              · (intro w hSw; (try dsimp only at hSw); go_simp); try with_reducible rfl
                              try simp only [Act.put, List.setIfInBounds_toArray, List.set_cons_zero, List.set_cons_succ]
                              refine wpAnyH_done (by kernel_rfl) ?_ _
                              have HZ := Lib.hid (HB.out.trans ((Tf11.bel (g := gp) (gq := gq) (gd := gd) (ga := ga) (gb := gf) (p := p) (q := q) (d := d) (a := ⟨ax, ay, az⟩) (b := ⟨fx, fy, fz⟩) (w0 := w18) hHeld).mono HB.out.size))
                              clear hHeld
                              go_wp2_with fail
                              go_ret
                              exact ⟨rfl, HZ.out⟩
                  · rw [show decide (PtOk ⟨q.x, q.y, q.z⟩) = false from decide_eq_false cq] at HVQ
                    clear cq HROW HCP
                    have p0 := Hp.out.c0; have p1 := Hp.out.c1; have p2 := Hp.out.c2; have pl := Hp.out.lt
                    have q0 := Hq.out.c0; have q1 := Hq.out.c1; have q2 := Hq.out.c2; have ql := Hq.out.lt
                    have d0 := Hd.out.c0; have d1 := Hd.out.c1; have d2 := Hd.out.c2; have dl := Hd.out.lt
                    have b0 := Hb.out.c0; have b1 := Hb.out.c1; have b2 := Hb.out.c2; have bl := Hb.out.lt
                    go_wp2_with fail
                    with_reducible refine Calls.mono (HVQ.out _) ?_
                    rintro e w3 ⟨rfl, hb⟩
                    replace Hp := Lib.hid (Hp.out.go hb)
                    replace Hq := Lib.hid (Hq.out.go hb)
                    replace Hd := Lib.hid (Hd.out.go hb)
                    replace Hb := Lib.hid (Hb.out.go hb)
                    replace HB := Lib.hid (HB.out.trans (hb.mono HB.out.size))
                    clear hb HVQ
                    clear p0 p1 p2 pl q0 q1 q2 ql d0 d1 d2 dl b0 b1 b2 bl
                    have p0 := Hp.out.c0; have p1 := Hp.out.c1; have p2 := Hp.out.c2; have pl := Hp.out.lt
                    have q0 := Hq.out.c0; have q1 := Hq.out.c1; have q2 := Hq.out.c2; have ql := Hq.out.lt
                    have d0 := Hd.out.c0; have d1 := Hd.out.c1; have d2 := Hd.out.c2; have dl := Hd.out.lt
                    have b0 := Hb.out.c0; have b1 := Hb.out.c1; have b2 := Hb.out.c2; have bl := Hb.out.lt
                    go_wp2_with fail
                    go_ret
                    exact ⟨rfl, HB.out⟩
                · rw [show decide (PtOk ⟨p.x, p.y, p.z⟩) = false from decide_eq_false cp] at HVP
                  clear cp HVQ HROW
                  have p0 := Hp.out.c0; have p1 := Hp.out.c1; have p2 := Hp.out.c2; have pl := Hp.out.lt
                  have q0 := Hq.out.c0; have q1 := Hq.out.c1; have q2 := Hq.out.c2; have ql := Hq.out.lt
                  have d0 := Hd.out.c0; have d1 := Hd.out.c1; have d2 := Hd.out.c2; have dl := Hd.out.lt
                  have b0 := Hb.out.c0; have b1 := Hb.out.c1; have b2 := Hb.out.c2; have bl := Hb.out.lt
                  go_wp2_with fail
                  with_reducible refine Calls.mono (HVP.out _) ?_
                  rintro e w2 ⟨rfl, hb⟩
                  replace Hp := Lib.hid (Hp.out.go hb)
                  replace Hq := Lib.hid (Hq.out.go hb)
                  replace Hd := Lib.hid (Hd.out.go hb)
                  replace Hb := Lib.hid (Hb.out.go hb)
                  replace HB := Lib.hid (HB.out.trans (hb.mono HB.out.size))
                  clear hb HVP
                  clear p0 p1 p2 pl q0 q1 q2 ql d0 d1 d2 dl b0 b1 b2 bl
                  have p0 := Hp.out.c0; have p1 := Hp.out.c1; have p2 := Hp.out.c2; have pl := Hp.out.lt
                  have q0 := Hq.out.c0; have q1 := Hq.out.c1; have q2 := Hq.out.c2; have ql := Hq.out.lt
                  have d0 := Hd.out.c0; have d1 := Hd.out.c1; have d2 := Hd.out.c2; have dl := Hd.out.lt
                  have b0 := Hb.out.c0; have b1 := Hb.out.c1; have b2 := Hb.out.c2; have bl := Hb.out.lt
                  go_wp2_with fail
                  go_ret
                  exact ⟨rfl, HB.out⟩
end Go.Proofs.Ytkjblmfmaenllaa
