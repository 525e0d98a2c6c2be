/-
  Contracts of the reference of layer 10, 6: Room.
-/
import Derived.Test.YtkjblmfmaenllaaGreatWa
set_option linter.unusedVariables false
set_option maxRecDepth 100000
namespace Go.Proofs.YtkjblmfmaenllaaGreat
open Go.RowKit

theorem room_ground (r : Rc) (l : List Pl) (hr : ROk r) : roomS r l 0 = [⟨0, 0, 1048576, 1048576⟩] := by
  have e : roomR r l 0 = ⟨0, 0, 1048576, 1048576⟩ := by
    rw [show roomR r l 0 = roomR r [] 0 from by unfold roomR atZ; simp, room_zero r hr]
  unfold roomS
  rw [e, if_pos (by decide)]
set_option maxHeartbeats 8000000 in
theorem nRoom_any (r : Rc) (A : Option Addr) (cap : Nat) (l : List Pl) (z : Int) (w : World) (hl : PlIn w A cap l) :
    Calls Tryz.prog 17 #[.agg #[.int .i64 r.X0, .int .i64 r.Y0, .int .i64 r.X1, .int .i64 r.Y1], .slice A l.length cap, .int .i64 z] w (RmE (RoomIs r l z) w) := by
  have HR := Lib.hid (fun w' (h : Below w.heap.size w w') => nvalid_any r A cap l w' (hl.below h))
  have HT : Hid (ArgOk r l → 0 < z → z ≤ 4096 → ∀ w', Below w.heap.size w w' → Calls Tryz.prog 66 #[.agg #[.int .i64 r.X0, .int .i64 r.Y0, .int .i64 r.X1, .int .i64 r.Y1], .slice A l.length cap, .int .i64 z] w' (RmIs (roomS r l z) w')) := Lib.hid (fun ha h0 h1 w' h => nroom_any r A cap l z w' (hl.below h) ha h0 h1)
  clear hl
  have B0 : Hid (Below w.heap.size w (w.alloc (.cells #[.int .i64 r.X0, .int .i64 r.Y0, .int .i64 r.X1, .int .i64 r.Y1] 33))) := Lib.hid (by (repeat' first | exact Below.refl _ _ | assumption | (apply below_drewN) | (refine Below.setCell ?_ (by (try simp); (try omega)) _) | (refine Below.alloc ?_ (by (try simp); (try omega)) _) | (refine Below.trans ?_ (Below.mono (Hid.out (by assumption)) (by (try simp); (try omega))))))
  have K0 : Hid (RcAt (w.alloc (.cells #[.int .i64 r.X0, .int .i64 r.Y0, .int .i64 r.X1, .int .i64 r.Y1] 33)) w.heap.size r) := Lib.hid (RcAt.new w r _ rfl)
  have k0 := K0.out.cell0; have k1 := K0.out.cell1; have k2 := K0.out.cell2; have k3 := K0.out.cell3; have kl := K0.out.lt
  by_cases c : ArgOk r l
  · rw [decide_eq_true c] at HR
    by_cases d : 0 ≤ z ∧ z ≤ 4096
    · have HRS : Hid (RoomIs r l z = (roomS r l z, 0)) := Lib.hid (by unfold RoomIs; rw [if_pos c, if_pos d])
      have d1 : decide (z < 0) = false := decide_eq_false (by omega)
      have d2 : decide (4096 < z) = false := decide_eq_false (by omega)
      by_cases z0 : z = 0
      · have HE : Hid (roomS r l z = [⟨0, 0, 1048576, 1048576⟩]) := Lib.hid (by rw [z0]; exact room_ground r l c.1)
        rw [HE.out] at HRS
        have d3 : decide (z = 0) = true := decide_eq_true z0
        clear HT c d
        go_enter Tryz.func17, Tryz.ntmps17
        go_wp2_with fail
        generalize World.alloc w _ = w0 at *
        refine (HR.out _ B0.out).mono ?_
        rintro e w1 ⟨rfl, hb⟩
        have B1 := Lib.hid (B0.out.trans (hb.mono B0.out.size)); clear hb K0 B0 HR k0 k1 k2 k3 kl
        have HRW := Lib.hid (RB.row (RB.new w1 [⟨0, 0, 1048576, 1048576⟩] #[.int .i64 0, .int .i64 0, .int .i64 1048576, .int .i64 1048576] rfl) (by simp))
        go_wp2_with fail
        go_ret2
        exact RmE.of HRS.out rfl rfl rfl HRW.out.row (B1.out.alloc B1.out.size _)
      · have d3 : decide (z = 0) = false := decide_eq_false z0
        replace HT := Lib.hid (HT.out c (by omega) d.2)
        clear c d
        generalize roomS r l z = F at *
        go_enter Tryz.func17, Tryz.ntmps17
        go_wp2_with fail
        generalize World.alloc w _ = w0 at *
        refine (HR.out _ B0.out).mono ?_
        rintro e w1 ⟨rfl, hb⟩
        have B1 := Lib.hid (B0.out.trans (hb.mono B0.out.size)); have K1 := Lib.hid (K0.out.below hb kl); clear hb K0 B0 HR k0 k1 k2 k3 kl
        have k0 := K1.out.cell0; have k1 := K1.out.cell1; have k2 := K1.out.cell2; have k3 := K1.out.cell3; have kl := K1.out.lt
        go_wp2_with fail
        refine (HT.out _ B1.out).mono ?_
        rintro e w3 ⟨A3, rfl, hr, hb⟩
        have B3 := Lib.hid (B1.out.trans (hb.mono B1.out.size)); have H3 := Lib.hid hr; clear hb hr K1 B1 HT k0 k1 k2 k3 kl
        go_wp2_with fail
        go_ret2
        exact RmE.of HRS.out rfl rfl rfl H3.out B3.out
    · have HRS : Hid (RoomIs r l z = ([], 3)) := Lib.hid (by unfold RoomIs; rw [if_pos c, if_neg d])
      clear c HT
      by_cases d0 : z < 0
      · have d1 : decide (z < 0) = true := decide_eq_true d0
        clear d
        go_enter Tryz.func17, Tryz.ntmps17
        go_wp2_with fail
        generalize World.alloc w _ = w0 at *
        refine (HR.out _ B0.out).mono ?_
        rintro e w1 ⟨rfl, hb⟩
        have B1 := Lib.hid (B0.out.trans (hb.mono B0.out.size)); clear hb K0 B0 HR k0 k1 k2 k3 kl
        go_wp2_with fail
        go_ret2
        exact RmE.of HRS.out rfl rfl rfl (RRow.nil _ _) B1.out
      · have d1 : decide (z < 0) = false := decide_eq_false d0
        have d2 : decide (4096 < z) = true := decide_eq_true (by omega)
        have z1 : 4096 < z := by omega
        clear d
        go_enter Tryz.func17, Tryz.ntmps17
        go_wp2_with fail
        generalize World.alloc w _ = w0 at *
        refine (HR.out _ B0.out).mono ?_
        rintro e w1 ⟨rfl, hb⟩
        have B1 := Lib.hid (B0.out.trans (hb.mono B0.out.size)); clear hb K0 B0 HR k0 k1 k2 k3 kl
        go_wp2_with fail
        go_ret2
        exact RmE.of HRS.out rfl rfl rfl (RRow.nil _ _) B1.out
  · rw [decide_eq_false c] at HR
    have HRS : Hid (RoomIs r l z = ([], 1)) := Lib.hid (by unfold RoomIs; rw [if_neg c])
    clear c HT
    go_enter Tryz.func17, Tryz.ntmps17
    go_wp2_with fail
    generalize World.alloc w _ = w0 at *
    refine (HR.out _ B0.out).mono ?_
    rintro e w1 ⟨rfl, hb⟩
    have B1 := Lib.hid (B0.out.trans (hb.mono B0.out.size)); clear hb K0 B0 HR k0 k1 k2 k3 kl
    go_wp2_with fail
    go_ret2
    exact RmE.of HRS.out rfl rfl rfl (RRow.nil _ _) B1.out
end Go.Proofs.YtkjblmfmaenllaaGreat
