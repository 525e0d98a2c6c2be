/-
  The walk of RectBounds.
-/
import Derived.Test.YtpbkmphpgjdpfaaEr
import Derived.Test.YtpbkmphpgjdpfaaEj
import Derived.Deep.RegionHeld3
import Derived.BigQuiet
set_option linter.unusedVariables false
set_option maxRecDepth 100000
namespace Go.Proofs.Ytpbkmphpgjdpfaa
open Go.RowKit

def sideB (f : Rc → Bool) (m : List Rc) : Bool := m.any fun r => rokB r && f r
theorem sideB_next (f : Rc → Bool) (l : List Rc) (k : Nat) (h : k < l.length) : sideB f (l.take (k + 1)) = (sideB f (l.take k) || (rokB l[k] && f l[k])) := by
  rw [take_nextR l k h]; simp only [sideB, List.any_append, List.any_cons, List.any_nil, Bool.or_false]
theorem sideB_true {f : Rc → Bool} {l : List Rc} (h : ∃ r ∈ l, ROk r ∧ f r = true) : sideB f l = true := by
  obtain ⟨r, hr, h1, h2⟩ := h
  exact List.any_eq_true.2 ⟨r, hr, by rw [(rokB_iff r).2 h1, h2]; rfl⟩
theorem sideB_false {f : Rc → Bool} {l : List Rc} (h : ∀ r ∈ l, ¬ ROk r) : sideB f l = false := by
  rw [← Bool.not_eq_true]; intro q
  obtain ⟨r, hr, hq⟩ := List.any_eq_true.1 q
  rw [(rokB_no r).2 (h r hr)] at hq; cases hq
/-- what the drawn regions read: one element of the list, and the bounds. -/
def El (b o q q2 : Nat) (v x : Rc) (w0 w : World) : Prop :=
  w.cell? ⟨b, o, none⟩ = some (.int .i64 v.X0) ∧ w.cell? ⟨b, o + 1, none⟩ = some (.int .i64 v.Y0) ∧ w.cell? ⟨b, o + 2, none⟩ = some (.int .i64 v.X1) ∧ w.cell? ⟨b, o + 3, none⟩ = some (.int .i64 v.Y1) ∧
  w.cell? ⟨q, 0, none⟩ = some (.int .i64 x.X0) ∧ w.cell? ⟨q, 1, none⟩ = some (.int .i64 x.Y0) ∧ w.cell? ⟨q, 2, none⟩ = some (.int .i64 x.X1) ∧ w.cell? ⟨q, 3, none⟩ = some (.int .i64 x.Y1) ∧
  b < w.heap.size ∧ q < w.heap.size ∧ Hid (Keep [(q2, x), (q, x)] w0 w)
theorem El.go {b o q q2 : Nat} {v x : Rc} {w0 w w' : World} (h : El b o q q2 v x w0 w) (hb : Below w.heap.size w w') : El b o q q2 v x w0 w' := by
  obtain ⟨h1, h2, h3, h4, h5, h6, h7, h8, a, c, hk⟩ := h
  have hs := hb.size
  exact ⟨(hb.cell (p := ⟨b, o, none⟩) a).trans h1, (hb.cell (p := ⟨b, o + 1, none⟩) a).trans h2, (hb.cell (p := ⟨b, o + 2, none⟩) a).trans h3, (hb.cell (p := ⟨b, o + 3, none⟩) a).trans h4, (hb.cell (p := ⟨q, 0, none⟩) c).trans h5, (hb.cell (p := ⟨q, 1, none⟩) c).trans h6, (hb.cell (p := ⟨q, 2, none⟩) c).trans h7, (hb.cell (p := ⟨q, 3, none⟩) c).trans h8, by omega, by omega, Lib.hid (hk.out.go hb)⟩
theorem El.drewN {b o q q2 : Nat} {v x : Rc} {w0 w : World} (h : El b o q q2 v x w0 w) (n : Nat) : El b o q q2 v x w0 (w.drewN n) := h.go (below_drewN (Below.refl _ _) n)

set_option maxHeartbeats 40000000 in
theorem bounds_core (A : Option Addr) (cap : Nat) (l : List Rc) (x : Rc) (xb : Bool) (w : World) (hl : l.length ≤ 200) (hA : RRow w A l)
    (HT : Hid (∀ w, RRow w A l → Calls Try.prog 28 #[.slice A l.length cap] w (RbIs (x, xb) w))) (HU : Hid (∀ w, RRow w A l → Calls Try.prog 29 #[.slice A l.length cap] w (RbIs (x, xb) w)))
    (hin : ∀ r ∈ l, ROk r → ∀ w, Calls Try.prog 22 #[.agg #[.int .i64 r.X0, .int .i64 r.Y0, .int .i64 r.X1, .int .i64 r.Y1], .agg #[.int .i64 x.X0, .int .i64 x.Y0, .int .i64 x.X1, .int .i64 x.Y1]] w (BlIs true w))
    (hend : (xb = true ∧ sideB (fun _ => true) l = true ∧ sideB (fun r => r.X0 == x.X0) l = true ∧ sideB (fun r => r.X1 == x.X1) l = true ∧ sideB (fun r => r.Y0 == x.Y0) l = true ∧ sideB (fun r => r.Y1 == x.Y1) l = true) ∨ (xb = false ∧ sideB (fun _ => true) l = false)) :
    Calls Try.prog 4 #[.slice A l.length cap] w (BlIs true w) := by
  have HA := Lib.hid hA; clear hA
  have HIN := Lib.hid hin; clear hin
  have HEND := Lib.hid hend; clear hend
  have hl1 : (l.length : Int) ≤ 200 := by omega
  have hl2 : ¬ (200 : Int) < (l.length : Int) := by omega
  go_enter Try.func4, Try.ntmps4
  go_wp2_with fail
  refine (small_any _).mono ?_
  rintro e1 w1 ⟨rfl, hb⟩
  have K1 := Lib.hid ((Keep.nil w).go hb); clear hb
  go_wp2_with fail
  refine (HT.out _ (HA.out.below K1.out.below)).mono ?_
  rintro e1 w2 ⟨rfl, hb⟩
  have K2 := Lib.hid ((K1.out.go hb).new x); clear hb K1
  go_wp2_with fail
  refine (HU.out _ (HA.out.below K2.out.below)).mono ?_
  rintro e1 w3 ⟨rfl, hb⟩
  have K3 := Lib.hid ((K2.out.go hb).new x); clear hb K2 HT HU
  have z0 := K3.out.1.cell0; have z1 := K3.out.1.cell1; have z2 := K3.out.1.cell2; have z3 := K3.out.1.cell3
  have y0 := K3.out.2.1.cell0; have y1 := K3.out.2.1.cell1; have y2 := K3.out.2.1.cell2; have y3 := K3.out.2.1.cell3
  have zl := K3.out.1.lt; have yl := K3.out.2.1.lt
  go_wp2_with fail
  clear z0 z1 z2 z3 y0 y1 y2 y3 zl yl
  generalize World.alloc w3 _ = wz at *
  generalize hq : w2.heap.size = q at *
  generalize hq2 : w3.heap.size = q2 at *
  clear hq hq2
  go_loopw [8, 9, 10, 11, 12, 13] (fun s8 s9 s10 s11 s12 i wr => ∃ k : Nat, k ≤ l.length ∧ i = .int .i64 k ∧ s8 = .bool (sideB (fun r => r.X0 == x.X0) (l.take k)) ∧ s9 = .bool (sideB (fun r => r.X1 == x.X1) (l.take k)) ∧ s10 = .bool (sideB (fun r => r.Y0 == x.Y0) (l.take k)) ∧ s11 = .bool (sideB (fun r => r.Y1 == x.Y1) (l.take k)) ∧ s12 = .bool (sideB (fun _ => true) (l.take k)) ∧ Hid (Keep [(q2, x), (q, x)] w wr)) (fun _ _ _ _ _ i _ => l.length - (intOf i).toNat)
  case atStart => exact ⟨0, Nat.zero_le _, rfl, rfl, rfl, rfl, rfl, rfl, K3⟩
  case round =>
    clear K3
    obtain ⟨k, hk, rfl, rfl, rfl, rfl, rfl, rfl, hK⟩ := hrel
    by_cases hlt : k < l.length
    · obtain ⟨b, off, rfl, hb, hv⟩ := (HA.out.below hK.out.below) (by omega)
      obtain ⟨v0, v1, v2, v3⟩ := hv k hlt
      have n0 := sideB_next (fun r => r.X0 == x.X0) l k hlt
      have n1 := sideB_next (fun r => r.X1 == x.X1) l k hlt
      have n2 := sideB_next (fun r => r.Y0 == x.Y0) l k hlt
      have n3 := sideB_next (fun r => r.Y1 == x.Y1) l k hlt
      have n4 := sideB_next (fun _ => true) l k hlt
      have hmem : l[k] ∈ l := List.getElem_mem hlt
      have hex : ∃ v, v = l[k] := ⟨_, rfl⟩
      obtain ⟨v, hve⟩ := hex
      rw [← hve] at v0 v1 v2 v3 n0 n1 n2 n3 n4 hmem
      clear hv hve
      have hi0 : (0 : Int) ≤ (k : Int) := by omega
      have hi1 : (k : Int) < (l.length : Int) := by omega
      have HN := Lib.hid (And.intro n0 (And.intro n1 (And.intro n2 (And.intro n3 n4)))); clear n0 n1 n2 n3 n4
      have HM := Lib.hid hmem; clear hmem
      generalize sideB (fun r => r.X0 == x.X0) (l.take k) = t0 at *
      generalize sideB (fun r => r.X1 == x.X1) (l.take k) = t1 at *
      generalize sideB (fun r => r.Y0 == x.Y0) (l.take k) = t2 at *
      generalize sideB (fun r => r.Y1 == x.Y1) (l.take k) = t3 at *
      generalize sideB (fun _ => true) (l.take k) = t4 at *
      have KE : El b (off + k * 4) q q2 v x w wr := ⟨v0, v1, v2, v3, hK.out.2.1.cell0, hK.out.2.1.cell1, hK.out.2.1.cell2, hK.out.2.1.cell3, hb, hK.out.2.1.lt, hK⟩
      have E0 := Lib.hid KE; clear KE hK
      go_wp2_with fail
      refine (tright_nd _ _ _ _ _).mono ?_
      rintro e1 w4 ⟨rfl, hb4⟩
      have E1 := Lib.hid (E0.out.go hb4); clear hb4 E0 v0 v1 v2 v3 hb
      by_cases ho : ROk v
      · have o : rokB ⟨v.X0, v.Y0, v.X1, v.Y1⟩ = true := (rokB_iff v).2 ho
        have HI := Lib.hid (HIN.out v HM.out ho)
        have hN := HN.out
        rw [(rokB_iff v).2 ho] at hN
        simp only [Bool.true_and, Bool.or_true] at hN
        have HN2 := Lib.hid hN; clear hN HN ho
        go_wp2_with fail
        go_region_held3 (fun w' => w'.cell? ⟨b, off + k * 4, none⟩ = some (.int .i64 v.X0) ∧ w'.cell? ⟨b, off + k * 4 + 1, none⟩ = some (.int .i64 v.Y0) ∧ w'.cell? ⟨b, off + k * 4 + 2, none⟩ = some (.int .i64 v.X1) ∧ w'.cell? ⟨b, off + k * 4 + 3, none⟩ = some (.int .i64 v.Y1) ∧
            w'.cell? ⟨q, 0, none⟩ = some (.int .i64 x.X0) ∧ w'.cell? ⟨q, 1, none⟩ = some (.int .i64 x.Y0) ∧ w'.cell? ⟨q, 2, none⟩ = some (.int .i64 x.X1) ∧ w'.cell? ⟨q, 3, none⟩ = some (.int .i64 x.Y1) ∧ b < w'.heap.size ∧ q < w'.heap.size ∧ Hid (Keep [(q2, x), (q, x)] w w'))
          (first | exact E1.out | exact El.drewN E1.out 1 | exact El.go ‹_› ‹_› | assumption)
          (first | (go_at_call 22; refine (HI.out _).mono ?_; rintro e w' ⟨rfl, hb⟩) | fail)
        go_wp2_with fail
        have E2 : El b (off + k * 4) q q2 v x w w' := by assumption
        clear E1
        have E1 := Lib.hid E2; clear E2
        generalize w' = wy at *
        have v0 := E1.out.1; have v1 := E1.out.2.1; have v2 := E1.out.2.2.1; have v3 := E1.out.2.2.2.1; have x0 := E1.out.2.2.2.2.1; have x1 := E1.out.2.2.2.2.2.1; have x2 := E1.out.2.2.2.2.2.2.1; have x3 := E1.out.2.2.2.2.2.2.2.1
        cases t0
        · go_quiet (fail)
          clear v0 v1 v2 v3 x0 x1 x2 x3
          go_wp2_with fail
          generalize hw : World.drewN wy _ = wn0 at *
          have E2 : El b (off + k * 4) q q2 v x w wn0 := by rw [← hw]; exact El.drewN E1.out _
          clear hw E1
          have E1 := Lib.hid E2; clear E2
          have v0 := E1.out.1; have v1 := E1.out.2.1; have v2 := E1.out.2.2.1; have v3 := E1.out.2.2.2.1; have x0 := E1.out.2.2.2.2.1; have x1 := E1.out.2.2.2.2.2.1; have x2 := E1.out.2.2.2.2.2.2.1; have x3 := E1.out.2.2.2.2.2.2.2.1
          cases t1
          · go_quiet (fail)
            clear v0 v1 v2 v3 x0 x1 x2 x3
            go_wp2_with fail
            generalize hw : World.drewN wn0 _ = wn1 at *
            have E2 : El b (off + k * 4) q q2 v x w wn1 := by rw [← hw]; exact El.drewN E1.out _
            clear hw E1
            have E1 := Lib.hid E2; clear E2
            have v0 := E1.out.1; have v1 := E1.out.2.1; have v2 := E1.out.2.2.1; have v3 := E1.out.2.2.2.1; have x0 := E1.out.2.2.2.2.1; have x1 := E1.out.2.2.2.2.2.1; have x2 := E1.out.2.2.2.2.2.2.1; have x3 := E1.out.2.2.2.2.2.2.2.1
            cases t2
            · go_quiet (fail)
              clear v0 v1 v2 v3 x0 x1 x2 x3
              go_wp2_with fail
              generalize hw : World.drewN wn1 _ = wn2 at *
              have E2 : El b (off + k * 4) q q2 v x w wn2 := by rw [← hw]; exact El.drewN E1.out _
              clear hw E1
              have E1 := Lib.hid E2; clear E2
              have v0 := E1.out.1; have v1 := E1.out.2.1; have v2 := E1.out.2.2.1; have v3 := E1.out.2.2.2.1; have x0 := E1.out.2.2.2.2.1; have x1 := E1.out.2.2.2.2.2.1; have x2 := E1.out.2.2.2.2.2.2.1; have x3 := E1.out.2.2.2.2.2.2.2.1
              cases t3
              · go_quiet (fail)
                clear v0 v1 v2 v3 x0 x1 x2 x3
                go_wp2_with fail
                generalize hw : World.drewN wn2 _ = wn3 at *
                have E2 : El b (off + k * 4) q q2 v x w wn3 := by rw [← hw]; exact El.drewN E1.out _
                clear hw E1
                have E1 := Lib.hid E2; clear E2
                go_roundw
                case rel => exact ⟨k + 1, by omega, by go_num, by rw [HN2.out.1]; rfl, by rw [HN2.out.2.1]; rfl, by rw [HN2.out.2.2.1]; rfl, by rw [HN2.out.2.2.2.1]; rfl, by rw [HN2.out.2.2.2.2], E1.out.2.2.2.2.2.2.2.2.2.2⟩
                case measure => simp [intOf]; omega
              · go_quiet (fail)
                clear v0 v1 v2 v3 x0 x1 x2 x3
                go_wp2_with fail
                generalize hw : World.drewN wn2 _ = wn3 at *
                have E2 : El b (off + k * 4) q q2 v x w wn3 := by rw [← hw]; exact El.drewN E1.out _
                clear hw E1
                have E1 := Lib.hid E2; clear E2
                go_roundw
                case rel => exact ⟨k + 1, by omega, by go_num, by rw [HN2.out.1]; rfl, by rw [HN2.out.2.1]; rfl, by rw [HN2.out.2.2.1]; rfl, by rw [HN2.out.2.2.2.1]; rfl, by rw [HN2.out.2.2.2.2], E1.out.2.2.2.2.2.2.2.2.2.2⟩
                case measure => simp [intOf]; omega
            · go_quiet (fail)
              clear v0 v1 v2 v3 x0 x1 x2 x3
              go_wp2_with fail
              generalize hw : World.drewN wn1 _ = wn2 at *
              have E2 : El b (off + k * 4) q q2 v x w wn2 := by rw [← hw]; exact El.drewN E1.out _
              clear hw E1
              have E1 := Lib.hid E2; clear E2
              have v0 := E1.out.1; have v1 := E1.out.2.1; have v2 := E1.out.2.2.1; have v3 := E1.out.2.2.2.1; have x0 := E1.out.2.2.2.2.1; have x1 := E1.out.2.2.2.2.2.1; have x2 := E1.out.2.2.2.2.2.2.1; have x3 := E1.out.2.2.2.2.2.2.2.1
              cases t3
              · go_quiet (fail)
                clear v0 v1 v2 v3 x0 x1 x2 x3
                go_wp2_with fail
                generalize hw : World.drewN wn2 _ = wn3 at *
                have E2 : El b (off + k * 4) q q2 v x w wn3 := by rw [← hw]; exact El.drewN E1.out _
                clear hw E1
                have E1 := Lib.hid E2; clear E2
                go_roundw
                case rel => exact ⟨k + 1, by omega, by go_num, by rw [HN2.out.1]; rfl, by rw [HN2.out.2.1]; rfl, by rw [HN2.out.2.2.1]; rfl, by rw [HN2.out.2.2.2.1]; rfl, by rw [HN2.out.2.2.2.2], E1.out.2.2.2.2.2.2.2.2.2.2⟩
                case measure => simp [intOf]; omega
              · go_quiet (fail)
                clear v0 v1 v2 v3 x0 x1 x2 x3
                go_wp2_with fail
                generalize hw : World.drewN wn2 _ = wn3 at *
                have E2 : El b (off + k * 4) q q2 v x w wn3 := by rw [← hw]; exact El.drewN E1.out _
                clear hw E1
                have E1 := Lib.hid E2; clear E2
                go_roundw
                case rel => exact ⟨k + 1, by omega, by go_num, by rw [HN2.out.1]; rfl, by rw [HN2.out.2.1]; rfl, by rw [HN2.out.2.2.1]; rfl, by rw [HN2.out.2.2.2.1]; rfl, by rw [HN2.out.2.2.2.2], E1.out.2.2.2.2.2.2.2.2.2.2⟩
                case measure => simp [intOf]; omega
          · go_quiet (fail)
            clear v0 v1 v2 v3 x0 x1 x2 x3
            go_wp2_with fail
            generalize hw : World.drewN wn0 _ = wn1 at *
            have E2 : El b (off + k * 4) q q2 v x w wn1 := by rw [← hw]; exact El.drewN E1.out _
            clear hw E1
            have E1 := Lib.hid E2; clear E2
            have v0 := E1.out.1; have v1 := E1.out.2.1; have v2 := E1.out.2.2.1; have v3 := E1.out.2.2.2.1; have x0 := E1.out.2.2.2.2.1; have x1 := E1.out.2.2.2.2.2.1; have x2 := E1.out.2.2.2.2.2.2.1; have x3 := E1.out.2.2.2.2.2.2.2.1
            cases t2
            · go_quiet (fail)
              clear v0 v1 v2 v3 x0 x1 x2 x3
              go_wp2_with fail
              generalize hw : World.drewN wn1 _ = wn2 at *
              have E2 : El b (off + k * 4) q q2 v x w wn2 := by rw [← hw]; exact El.drewN E1.out _
              clear hw E1
              have E1 := Lib.hid E2; clear E2
              have v0 := E1.out.1; have v1 := E1.out.2.1; have v2 := E1.out.2.2.1; have v3 := E1.out.2.2.2.1; have x0 := E1.out.2.2.2.2.1; have x1 := E1.out.2.2.2.2.2.1; have x2 := E1.out.2.2.2.2.2.2.1; have x3 := E1.out.2.2.2.2.2.2.2.1
              cases t3
              · go_quiet (fail)
                clear v0 v1 v2 v3 x0 x1 x2 x3
                go_wp2_with fail
                generalize hw : World.drewN wn2 _ = wn3 at *
                have E2 : El b (off + k * 4) q q2 v x w wn3 := by rw [← hw]; exact El.drewN E1.out _
                clear hw E1
                have E1 := Lib.hid E2; clear E2
                go_roundw
                case rel => exact ⟨k + 1, by omega, by go_num, by rw [HN2.out.1]; rfl, by rw [HN2.out.2.1]; rfl, by rw [HN2.out.2.2.1]; rfl, by rw [HN2.out.2.2.2.1]; rfl, by rw [HN2.out.2.2.2.2], E1.out.2.2.2.2.2.2.2.2.2.2⟩
                case measure => simp [intOf]; omega
              · go_quiet (fail)
                clear v0 v1 v2 v3 x0 x1 x2 x3
                go_wp2_with fail
                generalize hw : World.drewN wn2 _ = wn3 at *
                have E2 : El b (off + k * 4) q q2 v x w wn3 := by rw [← hw]; exact El.drewN E1.out _
                clear hw E1
                have E1 := Lib.hid E2; clear E2
                go_roundw
                case rel => exact ⟨k + 1, by omega, by go_num, by rw [HN2.out.1]; rfl, by rw [HN2.out.2.1]; rfl, by rw [HN2.out.2.2.1]; rfl, by rw [HN2.out.2.2.2.1]; rfl, by rw [HN2.out.2.2.2.2], E1.out.2.2.2.2.2.2.2.2.2.2⟩
                case measure => simp [intOf]; omega
            · go_quiet (fail)
              clear v0 v1 v2 v3 x0 x1 x2 x3
              go_wp2_with fail
              generalize hw : World.drewN wn1 _ = wn2 at *
              have E2 : El b (off + k * 4) q q2 v x w wn2 := by rw [← hw]; exact El.drewN E1.out _
              clear hw E1
              have E1 := Lib.hid E2; clear E2
              have v0 := E1.out.1; have v1 := E1.out.2.1; have v2 := E1.out.2.2.1; have v3 := E1.out.2.2.2.1; have x0 := E1.out.2.2.2.2.1; have x1 := E1.out.2.2.2.2.2.1; have x2 := E1.out.2.2.2.2.2.2.1; have x3 := E1.out.2.2.2.2.2.2.2.1
              cases t3
              · go_quiet (fail)
                clear v0 v1 v2 v3 x0 x1 x2 x3
                go_wp2_with fail
                generalize hw : World.drewN wn2 _ = wn3 at *
                have E2 : El b (off + k * 4) q q2 v x w wn3 := by rw [← hw]; exact El.drewN E1.out _
                clear hw E1
                have E1 := Lib.hid E2; clear E2
                go_roundw
                case rel => exact ⟨k + 1, by omega, by go_num, by rw [HN2.out.1]; rfl, by rw [HN2.out.2.1]; rfl, by rw [HN2.out.2.2.1]; rfl, by rw [HN2.out.2.2.2.1]; rfl, by rw [HN2.out.2.2.2.2], E1.out.2.2.2.2.2.2.2.2.2.2⟩
                case measure => simp [intOf]; omega
              · go_quiet (fail)
                clear v0 v1 v2 v3 x0 x1 x2 x3
                go_wp2_with fail
                generalize hw : World.drewN wn2 _ = wn3 at *
                have E2 : El b (off + k * 4) q q2 v x w wn3 := by rw [← hw]; exact El.drewN E1.out _
                clear hw E1
                have E1 := Lib.hid E2; clear E2
                go_roundw
                case rel => exact ⟨k + 1, by omega, by go_num, by rw [HN2.out.1]; rfl, by rw [HN2.out.2.1]; rfl, by rw [HN2.out.2.2.1]; rfl, by rw [HN2.out.2.2.2.1]; rfl, by rw [HN2.out.2.2.2.2], E1.out.2.2.2.2.2.2.2.2.2.2⟩
                case measure => simp [intOf]; omega
        · go_quiet (fail)
          clear v0 v1 v2 v3 x0 x1 x2 x3
          go_wp2_with fail
          generalize hw : World.drewN wy _ = wn0 at *
          have E2 : El b (off + k * 4) q q2 v x w wn0 := by rw [← hw]; exact El.drewN E1.out _
          clear hw E1
          have E1 := Lib.hid E2; clear E2
          have v0 := E1.out.1; have v1 := E1.out.2.1; have v2 := E1.out.2.2.1; have v3 := E1.out.2.2.2.1; have x0 := E1.out.2.2.2.2.1; have x1 := E1.out.2.2.2.2.2.1; have x2 := E1.out.2.2.2.2.2.2.1; have x3 := E1.out.2.2.2.2.2.2.2.1
          cases t1
          · go_quiet (fail)
            clear v0 v1 v2 v3 x0 x1 x2 x3
            go_wp2_with fail
            generalize hw : World.drewN wn0 _ = wn1 at *
            have E2 : El b (off + k * 4) q q2 v x w wn1 := by rw [← hw]; exact El.drewN E1.out _
            clear hw E1
            have E1 := Lib.hid E2; clear E2
            have v0 := E1.out.1; have v1 := E1.out.2.1; have v2 := E1.out.2.2.1; have v3 := E1.out.2.2.2.1; have x0 := E1.out.2.2.2.2.1; have x1 := E1.out.2.2.2.2.2.1; have x2 := E1.out.2.2.2.2.2.2.1; have x3 := E1.out.2.2.2.2.2.2.2.1
            cases t2
            · go_quiet (fail)
              clear v0 v1 v2 v3 x0 x1 x2 x3
              go_wp2_with fail
              generalize hw : World.drewN wn1 _ = wn2 at *
              have E2 : El b (off + k * 4) q q2 v x w wn2 := by rw [← hw]; exact El.drewN E1.out _
              clear hw E1
              have E1 := Lib.hid E2; clear E2
              have v0 := E1.out.1; have v1 := E1.out.2.1; have v2 := E1.out.2.2.1; have v3 := E1.out.2.2.2.1; have x0 := E1.out.2.2.2.2.1; have x1 := E1.out.2.2.2.2.2.1; have x2 := E1.out.2.2.2.2.2.2.1; have x3 := E1.out.2.2.2.2.2.2.2.1
              cases t3
              · go_quiet (fail)
                clear v0 v1 v2 v3 x0 x1 x2 x3
                go_wp2_with fail
                generalize hw : World.drewN wn2 _ = wn3 at *
                have E2 : El b (off + k * 4) q q2 v x w wn3 := by rw [← hw]; exact El.drewN E1.out _
                clear hw E1
                have E1 := Lib.hid E2; clear E2
                go_roundw
                case rel => exact ⟨k + 1, by omega, by go_num, by rw [HN2.out.1]; rfl, by rw [HN2.out.2.1]; rfl, by rw [HN2.out.2.2.1]; rfl, by rw [HN2.out.2.2.2.1]; rfl, by rw [HN2.out.2.2.2.2], E1.out.2.2.2.2.2.2.2.2.2.2⟩
                case measure => simp [intOf]; omega
              · go_quiet (fail)
                clear v0 v1 v2 v3 x0 x1 x2 x3
                go_wp2_with fail
                generalize hw : World.drewN wn2 _ = wn3 at *
                have E2 : El b (off + k * 4) q q2 v x w wn3 := by rw [← hw]; exact El.drewN E1.out _
                clear hw E1
                have E1 := Lib.hid E2; clear E2
                go_roundw
                case rel => exact ⟨k + 1, by omega, by go_num, by rw [HN2.out.1]; rfl, by rw [HN2.out.2.1]; rfl, by rw [HN2.out.2.2.1]; rfl, by rw [HN2.out.2.2.2.1]; rfl, by rw [HN2.out.2.2.2.2], E1.out.2.2.2.2.2.2.2.2.2.2⟩
                case measure => simp [intOf]; omega
            · go_quiet (fail)
              clear v0 v1 v2 v3 x0 x1 x2 x3
              go_wp2_with fail
              generalize hw : World.drewN wn1 _ = wn2 at *
              have E2 : El b (off + k * 4) q q2 v x w wn2 := by rw [← hw]; exact El.drewN E1.out _
              clear hw E1
              have E1 := Lib.hid E2; clear E2
              have v0 := E1.out.1; have v1 := E1.out.2.1; have v2 := E1.out.2.2.1; have v3 := E1.out.2.2.2.1; have x0 := E1.out.2.2.2.2.1; have x1 := E1.out.2.2.2.2.2.1; have x2 := E1.out.2.2.2.2.2.2.1; have x3 := E1.out.2.2.2.2.2.2.2.1
              cases t3
              · go_quiet (fail)
                clear v0 v1 v2 v3 x0 x1 x2 x3
                go_wp2_with fail
                generalize hw : World.drewN wn2 _ = wn3 at *
                have E2 : El b (off + k * 4) q q2 v x w wn3 := by rw [← hw]; exact El.drewN E1.out _
                clear hw E1
                have E1 := Lib.hid E2; clear E2
                go_roundw
                case rel => exact ⟨k + 1, by omega, by go_num, by rw [HN2.out.1]; rfl, by rw [HN2.out.2.1]; rfl, by rw [HN2.out.2.2.1]; rfl, by rw [HN2.out.2.2.2.1]; rfl, by rw [HN2.out.2.2.2.2], E1.out.2.2.2.2.2.2.2.2.2.2⟩
                case measure => simp [intOf]; omega
              · go_quiet (fail)
                clear v0 v1 v2 v3 x0 x1 x2 x3
                go_wp2_with fail
                generalize hw : World.drewN wn2 _ = wn3 at *
                have E2 : El b (off + k * 4) q q2 v x w wn3 := by rw [← hw]; exact El.drewN E1.out _
                clear hw E1
                have E1 := Lib.hid E2; clear E2
                go_roundw
                case rel => exact ⟨k + 1, by omega, by go_num, by rw [HN2.out.1]; rfl, by rw [HN2.out.2.1]; rfl, by rw [HN2.out.2.2.1]; rfl, by rw [HN2.out.2.2.2.1]; rfl, by rw [HN2.out.2.2.2.2], E1.out.2.2.2.2.2.2.2.2.2.2⟩
                case measure => simp [intOf]; omega
          · go_quiet (fail)
            clear v0 v1 v2 v3 x0 x1 x2 x3
            go_wp2_with fail
            generalize hw : World.drewN wn0 _ = wn1 at *
            have E2 : El b (off + k * 4) q q2 v x w wn1 := by rw [← hw]; exact El.drewN E1.out _
            clear hw E1
            have E1 := Lib.hid E2; clear E2
            have v0 := E1.out.1; have v1 := E1.out.2.1; have v2 := E1.out.2.2.1; have v3 := E1.out.2.2.2.1; have x0 := E1.out.2.2.2.2.1; have x1 := E1.out.2.2.2.2.2.1; have x2 := E1.out.2.2.2.2.2.2.1; have x3 := E1.out.2.2.2.2.2.2.2.1
            cases t2
            · go_quiet (fail)
              clear v0 v1 v2 v3 x0 x1 x2 x3
              go_wp2_with fail
              generalize hw : World.drewN wn1 _ = wn2 at *
              have E2 : El b (off + k * 4) q q2 v x w wn2 := by rw [← hw]; exact El.drewN E1.out _
              clear hw E1
              have E1 := Lib.hid E2; clear E2
              have v0 := E1.out.1; have v1 := E1.out.2.1; have v2 := E1.out.2.2.1; have v3 := E1.out.2.2.2.1; have x0 := E1.out.2.2.2.2.1; have x1 := E1.out.2.2.2.2.2.1; have x2 := E1.out.2.2.2.2.2.2.1; have x3 := E1.out.2.2.2.2.2.2.2.1
              cases t3
              · go_quiet (fail)
                clear v0 v1 v2 v3 x0 x1 x2 x3
                go_wp2_with fail
                generalize hw : World.drewN wn2 _ = wn3 at *
                have E2 : El b (off + k * 4) q q2 v x w wn3 := by rw [← hw]; exact El.drewN E1.out _
                clear hw E1
                have E1 := Lib.hid E2; clear E2
                go_roundw
                case rel => exact ⟨k + 1, by omega, by go_num, by rw [HN2.out.1]; rfl, by rw [HN2.out.2.1]; rfl, by rw [HN2.out.2.2.1]; rfl, by rw [HN2.out.2.2.2.1]; rfl, by rw [HN2.out.2.2.2.2], E1.out.2.2.2.2.2.2.2.2.2.2⟩
                case measure => simp [intOf]; omega
              · go_quiet (fail)
                clear v0 v1 v2 v3 x0 x1 x2 x3
                go_wp2_with fail
                generalize hw : World.drewN wn2 _ = wn3 at *
                have E2 : El b (off + k * 4) q q2 v x w wn3 := by rw [← hw]; exact El.drewN E1.out _
                clear hw E1
                have E1 := Lib.hid E2; clear E2
                go_roundw
                case rel => exact ⟨k + 1, by omega, by go_num, by rw [HN2.out.1]; rfl, by rw [HN2.out.2.1]; rfl, by rw [HN2.out.2.2.1]; rfl, by rw [HN2.out.2.2.2.1]; rfl, by rw [HN2.out.2.2.2.2], E1.out.2.2.2.2.2.2.2.2.2.2⟩
                case measure => simp [intOf]; omega
            · go_quiet (fail)
              clear v0 v1 v2 v3 x0 x1 x2 x3
              go_wp2_with fail
              generalize hw : World.drewN wn1 _ = wn2 at *
              have E2 : El b (off + k * 4) q q2 v x w wn2 := by rw [← hw]; exact El.drewN E1.out _
              clear hw E1
              have E1 := Lib.hid E2; clear E2
              have v0 := E1.out.1; have v1 := E1.out.2.1; have v2 := E1.out.2.2.1; have v3 := E1.out.2.2.2.1; have x0 := E1.out.2.2.2.2.1; have x1 := E1.out.2.2.2.2.2.1; have x2 := E1.out.2.2.2.2.2.2.1; have x3 := E1.out.2.2.2.2.2.2.2.1
              cases t3
              · go_quiet (fail)
                clear v0 v1 v2 v3 x0 x1 x2 x3
                go_wp2_with fail
                generalize hw : World.drewN wn2 _ = wn3 at *
                have E2 : El b (off + k * 4) q q2 v x w wn3 := by rw [← hw]; exact El.drewN E1.out _
                clear hw E1
                have E1 := Lib.hid E2; clear E2
                go_roundw
                case rel => exact ⟨k + 1, by omega, by go_num, by rw [HN2.out.1]; rfl, by rw [HN2.out.2.1]; rfl, by rw [HN2.out.2.2.1]; rfl, by rw [HN2.out.2.2.2.1]; rfl, by rw [HN2.out.2.2.2.2], E1.out.2.2.2.2.2.2.2.2.2.2⟩
                case measure => simp [intOf]; omega
              · go_quiet (fail)
                clear v0 v1 v2 v3 x0 x1 x2 x3
                go_wp2_with fail
                generalize hw : World.drewN wn2 _ = wn3 at *
                have E2 : El b (off + k * 4) q q2 v x w wn3 := by rw [← hw]; exact El.drewN E1.out _
                clear hw E1
                have E1 := Lib.hid E2; clear E2
                go_roundw
                case rel => exact ⟨k + 1, by omega, by go_num, by rw [HN2.out.1]; rfl, by rw [HN2.out.2.1]; rfl, by rw [HN2.out.2.2.1]; rfl, by rw [HN2.out.2.2.2.1]; rfl, by rw [HN2.out.2.2.2.2], E1.out.2.2.2.2.2.2.2.2.2.2⟩
                case measure => simp [intOf]; omega
      · have o : rokB ⟨v.X0, v.Y0, v.X1, v.Y1⟩ = false := (rokB_no v).2 ho
        have hN := HN.out
        rw [(rokB_no v).2 ho] at hN
        simp only [Bool.false_and, Bool.or_false] at hN
        have HN2 := Lib.hid hN; clear hN HN ho
        go_wp2_with fail
        go_roundw
        case rel => exact ⟨k + 1, by omega, by go_num, by rw [HN2.out.1], by rw [HN2.out.2.1], by rw [HN2.out.2.2.1], by rw [HN2.out.2.2.2.1], by rw [HN2.out.2.2.2.2], E1.out.2.2.2.2.2.2.2.2.2.2⟩
        case measure => simp [intOf]; omega
    · obtain rfl : k = l.length := by omega
      rw [List.take_length] at *
      rcases HEND.out with ⟨rfl, e4, e0, e1, e2, e3⟩ | ⟨rfl, e4⟩
      · rw [e0, e1, e2, e3, e4] at *
        go_wp2_with fail
        go_ret
        exact ⟨rfl, hK.out.below⟩
      · rw [e4] at *
        go_wp2_with fail
        go_ret
        exact ⟨rfl, hK.out.below⟩

theorem bounds_few (A : Option Addr) (cap : Nat) (l : List Rc) (w : World) (hl : 200 < l.length) (hb : l.length ≤ 9223372036854775807) : Calls Try.prog 4 #[.slice A l.length cap] w (BlIs true w) := by
  have hl1 : (200 : Int) < (l.length : Int) := by omega
  go_enter Try.func4, Try.ntmps4
  go_wp2_with fail
  refine (small_any _).mono ?_
  rintro e1 w1 ⟨rfl, hb⟩
  have K1 := Lib.hid ((Keep.nil w).go hb); clear hb
  go_wp2_with fail
  go_ret
  exact ⟨rfl, K1.out.below⟩
theorem bounds_walk (A : Option Addr) (cap : Nat) (l : List Rc) (w : World) (hl : l.length ≤ 9223372036854775807) (hok : ∀ x ∈ l, InR x) (hA : RRow w A l) : Calls Try.prog 4 #[.slice A l.length cap] w (BlIs true w) := by
  by_cases hlen : l.length ≤ 200
  · have hB := bounds_of l
    have e : boundsR l = ((boundsR l).1, (boundsR l).2) := rfl
    refine bounds_core A cap l (boundsR l).1 (boundsR l).2 w hlen hA (Lib.hid fun w h => tbounds_any A cap l w hl h) (Lib.hid fun w h => ubounds_any A cap l w hl h) (fun r hr hro w => ?_) ?_
    · have := tinside_any r (boundsR l).1 w
      have hx : (boundsR l).2 = true := by
        cases h : (boundsR l).2
        · exact absurd hro ((hB.2 h).2 r hr)
        · rfl
      rwa [decide_eq_true ((hB.1 hx).2.1 r hr hro)] at this
    · cases h : (boundsR l).2
      · exact Or.inr ⟨rfl, sideB_false (hB.2 h).2⟩
      · obtain ⟨ho, hi, ⟨r0, m0, k0, e0⟩, ⟨r1, m1, k1, e1⟩, ⟨r2, m2, k2, e2⟩, ⟨r3, m3, k3, e3⟩⟩ := hB.1 h
        exact Or.inl ⟨rfl, sideB_true ⟨r0, m0, k0, rfl⟩, sideB_true ⟨r0, m0, k0, by simp [e0]⟩, sideB_true ⟨r1, m1, k1, by simp [e1]⟩, sideB_true ⟨r2, m2, k2, by simp [e2]⟩, sideB_true ⟨r3, m3, k3, by simp [e3]⟩⟩
  · exact bounds_few A cap l w (by omega) hl
end Go.Proofs.Ytpbkmphpgjdpfaa
