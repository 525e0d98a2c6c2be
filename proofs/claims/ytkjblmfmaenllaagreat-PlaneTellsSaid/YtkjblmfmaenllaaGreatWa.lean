/-
  Contracts of the reference of layer 10, 5: room, the loop.
-/
import Derived.Test.YtkjblmfmaenllaaGreatR9
set_option linter.unusedVariables false
set_option maxRecDepth 100000
namespace Go.Proofs.YtkjblmfmaenllaaGreat
open Go.RowKit

theorem RcAt.set0 {w : World} {b : Nat} {r : Rc} (h : RcAt w b r) (v : Int) : RcAt (w.setCell ⟨b, 0, none⟩ (.int .i64 v)) b ⟨v, r.Y0, r.X1, r.Y1⟩ := by
  unfold RcAt at h ⊢
  simp [World.setCell, Array.getElem?_modify, h]
theorem RcAt.set1 {w : World} {b : Nat} {r : Rc} (h : RcAt w b r) (v : Int) : RcAt (w.setCell ⟨b, 1, none⟩ (.int .i64 v)) b ⟨r.X0, v, r.X1, r.Y1⟩ := by
  unfold RcAt at h ⊢
  simp [World.setCell, Array.getElem?_modify, h]
theorem RcAt.set2 {w : World} {b : Nat} {r : Rc} (h : RcAt w b r) (v : Int) : RcAt (w.setCell ⟨b, 2, none⟩ (.int .i64 v)) b ⟨r.X0, r.Y0, v, r.Y1⟩ := by
  unfold RcAt at h ⊢
  simp [World.setCell, Array.getElem?_modify, h]
theorem RcAt.set3 {w : World} {b : Nat} {r : Rc} (h : RcAt w b r) (v : Int) : RcAt (w.setCell ⟨b, 3, none⟩ (.int .i64 v)) b ⟨r.X0, r.Y0, r.X1, v⟩ := by
  unfold RcAt at h ⊢
  simp [World.setCell, Array.getElem?_modify, h]
theorem room_rok (r : Rc) (l : List Pl) (z : Int) : ROk (roomR r l z) ↔ (roomR r l z).X0 < (roomR r l z).X1 ∧ (roomR r l z).Y0 < (roomR r l z).Y1 := by
  have h1 : 0 ≤ (roomR r l z).X0 := by unfold roomR; simp only []; omega
  have h2 : 0 ≤ (roomR r l z).Y0 := by unfold roomR; simp only []; omega
  have h3 : (roomR r l z).X1 ≤ 1048576 := by unfold roomR; simp only []; omega
  have h4 : (roomR r l z).Y1 ≤ 1048576 := by unfold roomR; simp only []; omega
  unfold ROk Span
  omega
set_option maxHeartbeats 16000000 in
theorem nroom_any (r : Rc) (A : Option Addr) (cap : Nat) (l : List Pl) (z : Int) (w : World) (hl : PlIn w A cap l) (ha : ArgOk r l) (h0 : 0 < z) (h1 : z ≤ 4096) :
    Calls Tryz.prog 66 #[.agg #[.int .i64 r.X0, .int .i64 r.Y0, .int .i64 r.X1, .int .i64 r.Y1], .slice A l.length cap, .int .i64 z] w (RmIs (roomS r l z) w) := by
  have HL := Lib.hid hl; clear hl
  have HA := Lib.hid ha; clear ha
  obtain ⟨wA, hA⟩ : ∃ wA, wA = w.alloc (.cells #[.int .i64 r.X0, .int .i64 r.Y0, .int .i64 r.X1, .int .i64 r.Y1] 33) := ⟨_, rfl⟩
  have BA : Below w.heap.size w wA := by subst hA; (repeat' first | exact Below.refl _ _ | assumption | (apply below_drewN) | (refine Below.setCell ?_ (by (try simp); (try omega)) _) | (refine Below.alloc ?_ (by (try simp); (try omega)) _) | (refine Below.trans ?_ (Below.mono (Hid.out (by assumption)) (by (try simp); (try omega)))))
  have KA : RcAt wA w.heap.size r := by subst hA; exact RcAt.new w r _ rfl
  obtain ⟨wB, hB⟩ : ∃ wB, wB = wA.alloc (.cells #[.int .i64 0, .int .i64 0, .int .i64 1048576, .int .i64 1048576] 33) := ⟨_, rfl⟩
  have bAB : Below wA.heap.size wA wB := by subst hB; exact (Below.refl _ _).alloc (Nat.le_refl _) _
  have hg : wA.heap.size = w.heap.size + 1 := by subst hA; simp
  have HN : Hid (RcAt wB (w.heap.size + 1) (roomR r [] z)) := Lib.hid (by rw [← hg, room_zero r HA.out.1]; subst hB; exact RcAt.new wA ⟨0, 0, 1048576, 1048576⟩ _ rfl)
  have HK : Hid (RcAt wB w.heap.size r) := Lib.hid (KA.below bAB KA.lt)
  have HB : Hid (Below w.heap.size w wB) := Lib.hid (BA.trans (bAB.mono BA.size))
  clear BA KA bAB
  go_enter Tryz.func66, Tryz.ntmps66
  go_wp2_with fail
  rw [← hA, ← hB]
  clear hA hB hg
  have hgw : Hid (w.heap.size ≤ w.heap.size + 1) := Lib.hid (by omega)
  have hgk : Hid (w.heap.size + 1 ≠ w.heap.size) := Lib.hid (by omega)
  generalize w.heap.size + 1 = g at *
  go_loopw [8] (fun i wr => ∃ (k : Nat), k ≤ l.length ∧ i = .int .i64 k ∧ Hid (RcAt wr w.heap.size r) ∧ Hid (RcAt wr g (roomR r (l.take k) z)) ∧ Hid (Below w.heap.size w wr)) (fun i _ => l.length - (intOf i).toNat)
  case atStart => exact ⟨0, Nat.zero_le _, rfl, HK, HN, HB⟩
  case round =>
  clear HK HN HB
  obtain ⟨k, hk, rfl, HK, HN, HB⟩ := hrel
  by_cases hlt : k < l.length
  · obtain ⟨ba, oa, rfl, hba, hva⟩ := HL.out.row (by omega)
    obtain ⟨x0, x1, x2, x3⟩ := hva k hlt
    have hp := HA.out.2 _ (List.getElem_mem hlt)
    have hm : l[k] ∈ l := List.getElem_mem hlt
    have hT : l.take (k + 1) = l.take k ++ [l[k]] := List.take_succ_eq_append_getElem hlt
    obtain ⟨u, hu⟩ : ∃ u, u = l[k] := ⟨_, rfl⟩
    rw [← hu] at x0 x1 x2 x3 hp hT hm
    have HTK := Lib.hid hT
    have HMM := Lib.hid hm
    have HBD := Lib.hid (room_bd r HA.out.1 (l := l.take k) (fun p hp => HA.out.2 p (List.mem_of_mem_take hp)) (by omega : 0 ≤ z) h1)
    clear hu hva hT hm
    have wc := fun o => HB.out.cell (p := ⟨ba, o, none⟩) hba
    have x0 := (wc _).trans x0; have x1 := (wc _).trans x1; have x2 := (wc _).trans x2; have x3 := (wc _).trans x3
    have hbw : ba < wr.heap.size := Nat.lt_of_lt_of_le hba HB.out.size
    clear wc
    have n0 : (0 : Int) ≤ (k : Int) := by omega
    have n1 : (k : Int) < (l.length : Int) := by omega
    have hlen := HL.out.len
    have P0 := Lib.hid (PlAt.new wr u _ rfl)
    have ba0 : Below wr.heap.size wr (wr.alloc (.cells #[.int .i64 u.s, .int .i64 u.b, .int .i64 u.n, .int .i64 u.d] 47)) := (Below.refl _ _).alloc (Nat.le_refl _) _
    have HK2 := Lib.hid (HK.out.below ba0 HK.out.lt)
    have HN2 := Lib.hid (HN.out.below ba0 HN.out.lt)
    have HB2 := Lib.hid (HB.out.trans (ba0.mono HB.out.size))
    clear ba0 HK HB HN
    have p0 := P0.out.c0; have p1 := P0.out.c1; have p2 := P0.out.c2; have p3 := P0.out.c3; have pl := P0.out.lt
    have HP := Lib.hid hp
    obtain ⟨⟨s0, s1⟩, ⟨b0, b1⟩, ⟨m0, m1⟩, d0, d1⟩ := hp
    by_cases cn : u.n = 0
    · by_cases cz : u.b < z
      · have HE : Hid (roomS r l z = []) := Lib.hid (room_none h0 HA.out.1 HMM.out HP.out cn cz)
        have dn1 : (u.n == 0) = true := by simp [cn]
        have dn2 : decide (u.n = 0) = true := by simp [cn]
        clear cn
        go_wp2_with fail
        go_ret
        exact RmIs.of HE.out rfl rfl (RRow.nil _ _) HB2.out
      · have HE : Hid (roomR r (l.take (k + 1)) z = roomR r (l.take k) z) := Lib.hid (by rw [HTK.out]; exact room_flat r _ HP.out cn (by omega))
        have dn1 : (u.n == 0) = true := by simp [cn]
        have dn2 : decide (u.n = 0) = true := by simp [cn]
        clear cn
        go_wp2_with fail
        go_roundw
        case rel => exact ⟨k + 1, by omega, by go_num, HK2, Lib.hid (by rw [HE.out]; exact HN2.out), HB2⟩
        case measure => simp [intOf]; omega
    · have a1 := Int.mul_le_mul (show z - u.b ≤ 4096 by omega) d1 (by omega) (by omega)
      have a2 := Int.mul_le_mul (show u.b - z ≤ 4096 by omega) d1 (by omega) (by omega)
      have a3 : (u.b - z) * u.d = -((z - u.b) * u.d) := by rw [← Int.neg_mul]; congr 1; omega
      rw [a3] at a2
      have HC := Lib.hid (fun w' => nceil_any ((z - u.b) * u.d) u.n (by omega) (by omega) (by omega) (by omega) w')
      have e : -(-((z - u.b) * u.d) / u.n) = nearP u z := by unfold nearP; rw [if_pos (by omega)]
      rw [e] at HC
      have ht := near_in HP.out (by omega : 0 ≤ z) h1
      have zz1 : IntKind.i64.wrap (z - u.b) = z - u.b := IntWalk.i64_in _ (by omega)
      have zz2 : IntKind.i64.wrap ((z - u.b) * u.d) = (z - u.b) * u.d := IntWalk.i64_in _ (by omega)
      have S0 : Hid (u.s = 0 → _) := Lib.hid (fun h => room_w r (l.take k) u h0 h)
      have S1 : Hid (u.s = 1 → _) := Lib.hid (fun h => room_e r (l.take k) u h0 h)
      have S2 : Hid (u.s = 2 → _) := Lib.hid (fun h => room_s r (l.take k) u h0 h)
      have S3 : Hid (u.s = 3 → _) := Lib.hid (fun h => room_n r (l.take k) u h0 h)
      rw [← HTK.out] at S0 S1 S2 S3
      generalize roomR r (l.take k) z = q at *
      generalize nearP u z = t at *
      obtain ⟨v0, hv0⟩ : ∃ v, z - u.b = v := ⟨_, rfl⟩
      obtain ⟨v1, hv1⟩ : ∃ v, (z - u.b) * u.d = v := ⟨_, rfl⟩
      rw [hv1] at HC
      have zq1 : IntKind.i64.wrap (z - u.b) = v0 := zz1.trans hv0
      have zq2 : IntKind.i64.wrap (v0 * u.d) = v1 := by rw [← hv0]; exact zz2.trans hv1
      clear zz1 zz2 hv0 hv1 a1 a2 a3 e
      have cn1 : (u.n == 0) = false := by simp [cn]
      have cn2 : decide (u.n = 0) = false := by simp [cn]
      obtain ⟨⟨g0, g1⟩, ⟨g2, g3⟩, ⟨g4, g5⟩, g6, g7⟩ := HBD.out
      have hr := HA.out.1
      obtain ⟨⟨r0, r1, r2⟩, r3, r4, r5⟩ := hr
      have q0 : IntKind.i64.wrap (r.X0 + t) = r.X0 + t := IntWalk.i64_in _ (by omega)
      have q1 : IntKind.i64.wrap (r.X1 - t) = r.X1 - t := IntWalk.i64_in _ (by omega)
      have q2 : IntKind.i64.wrap (r.Y0 + t) = r.Y0 + t := IntWalk.i64_in _ (by omega)
      have q3 : IntKind.i64.wrap (r.Y1 - t) = r.Y1 - t := IntWalk.i64_in _ (by omega)
      have y0 := HK2.out.cell0; have y1 := HK2.out.cell1; have y2 := HK2.out.cell2; have y3 := HK2.out.cell3; have yl := HK2.out.lt
      have u0 := HN2.out.cell0; have u1 := HN2.out.cell1; have u2 := HN2.out.cell2; have u3 := HN2.out.cell3; have ul := HN2.out.lt
      have uf := HN2.out.froz
      have hs : u.s = 0 ∨ u.s = 1 ∨ u.s = 2 ∨ u.s = 3 := by omega
      rcases hs with hs | hs | hs | hs
      · skip
        have HE := Lib.hid (S0.out hs)
        clear S0 S1 S2 S3
        replace hs := Lib.hid hs
        go_wp2_with fail
        generalize World.alloc wr _ = w3 at *
        generalize wr.heap.size = pb at *
        rw [hs.out] at p0
        refine (HC.out _).mono ?_
        rintro e w4 ⟨rfl, rfl⟩
        go_wp2_with fail
        go_roundw
        case rel => exact ⟨k + 1, by omega, by go_num, Lib.hid (HK2.out.far hgk.out.symm), Lib.hid (by rw [HE.out]; exact HN2.out.set0 _), Lib.hid (HB2.out.setCell hgw.out _)⟩
        case measure => simp [intOf]; omega
      · skip
        have HE := Lib.hid (S1.out hs)
        clear S0 S1 S2 S3
        replace hs := Lib.hid hs
        go_wp2_with fail
        generalize World.alloc wr _ = w3 at *
        generalize wr.heap.size = pb at *
        rw [hs.out] at p0
        refine (HC.out _).mono ?_
        rintro e w4 ⟨rfl, rfl⟩
        go_wp2_with fail
        go_roundw
        case rel => exact ⟨k + 1, by omega, by go_num, Lib.hid (HK2.out.far hgk.out.symm), Lib.hid (by rw [HE.out]; exact HN2.out.set2 _), Lib.hid (HB2.out.setCell hgw.out _)⟩
        case measure => simp [intOf]; omega
      · skip
        have HE := Lib.hid (S2.out hs)
        clear S0 S1 S2 S3
        replace hs := Lib.hid hs
        go_wp2_with fail
        generalize World.alloc wr _ = w3 at *
        generalize wr.heap.size = pb at *
        rw [hs.out] at p0
        refine (HC.out _).mono ?_
        rintro e w4 ⟨rfl, rfl⟩
        go_wp2_with fail
        go_roundw
        case rel => exact ⟨k + 1, by omega, by go_num, Lib.hid (HK2.out.far hgk.out.symm), Lib.hid (by rw [HE.out]; exact HN2.out.set1 _), Lib.hid (HB2.out.setCell hgw.out _)⟩
        case measure => simp [intOf]; omega
      · skip
        have HE := Lib.hid (S3.out hs)
        clear S0 S1 S2 S3
        replace hs := Lib.hid hs
        go_wp2_with fail
        generalize World.alloc wr _ = w3 at *
        generalize wr.heap.size = pb at *
        rw [hs.out] at p0
        refine (HC.out _).mono ?_
        rintro e w4 ⟨rfl, rfl⟩
        go_wp2_with fail
        go_roundw
        case rel => exact ⟨k + 1, by omega, by go_num, Lib.hid (HK2.out.far hgk.out.symm), Lib.hid (by rw [HE.out]; exact HN2.out.set3 _), Lib.hid (HB2.out.setCell hgw.out _)⟩
        case measure => simp [intOf]; omega
  · obtain rfl : k = l.length := by omega
    rw [List.take_length] at HN
    have HR := Lib.hid (room_rok r l z)
    have HD : Hid (roomS r l z = if ROk (roomR r l z) then [roomR r l z] else []) := Lib.hid rfl
    generalize roomR r l z = q at *
    have u0 := HN.out.cell0; have u1 := HN.out.cell1; have u2 := HN.out.cell2; have u3 := HN.out.cell3; have ul := HN.out.lt
    have y0 := HK.out.cell0; have yl := HK.out.lt
    by_cases c0 : q.X0 < q.X1
    · by_cases c1 : q.Y0 < q.Y1
      · have HE : Hid (roomS r l z = [q]) := Lib.hid (by rw [HD.out, if_pos (HR.out.2 ⟨c0, c1⟩)])
        have HRW := Lib.hid (RB.row (RB.new wr [q] #[.int .i64 q.X0, .int .i64 q.Y0, .int .i64 q.X1, .int .i64 q.Y1] rfl) (by simp))
        have d0 : decide (q.X1 ≤ q.X0) = false := decide_eq_false (by omega)
        have d1 : decide (q.Y1 ≤ q.Y0) = false := decide_eq_false (by omega)
        go_wp2_with fail
        go_ret
        exact RmIs.of HE.out rfl rfl HRW.out.row (HB.out.alloc HB.out.size _)
      · have HE : Hid (roomS r l z = []) := Lib.hid (by rw [HD.out, if_neg (fun h => c1 (HR.out.1 h).2)])
        have d0 : decide (q.X1 ≤ q.X0) = false := decide_eq_false (by omega)
        have d1 : decide (q.Y1 ≤ q.Y0) = true := decide_eq_true (by omega)
        go_wp2_with fail
        go_ret
        exact RmIs.of HE.out rfl rfl (RRow.nil _ _) HB.out
    · have HE : Hid (roomS r l z = []) := Lib.hid (by rw [HD.out, if_neg (fun h => c0 (HR.out.1 h).1)])
      have d0 : decide (q.X1 ≤ q.X0) = true := decide_eq_true (by omega)
      go_wp2_with fail
      go_ret
      exact RmIs.of HE.out rfl rfl (RRow.nil _ _) HB.out
end Go.Proofs.YtkjblmfmaenllaaGreat
