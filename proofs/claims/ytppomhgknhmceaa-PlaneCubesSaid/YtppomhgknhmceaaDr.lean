/-
  PlaneRooms: the walk.
-/
import Derived.Test.YtppomhgknhmceaaDq
import Derived.Test.YtppomhgknhmceaaIh
import Derived.Test.YtppomhgknhmceaaIb
set_option linter.unusedVariables false
set_option maxRecDepth 100000
namespace Go.Proofs.Ytppomhgknhmceaa
open Go.RowKit

/-- the rectangle in its box, the planes, and that nothing that was there has turned. -/
structure LK (r : Rc) (A : Option Addr) (cap : Nat) (l : List Pl) (w w' : World) : Prop where
  r : RcAt w' w.heap.size r
  p : PlIn w' A cap l
  b : Below w.heap.size w w'
theorem LK.go {r : Rc} {A : Option Addr} {cap : Nat} {l : List Pl} {w w1 w' : World} (h : LK r A cap l w w1) (hb : Below w1.heap.size w1 w') : LK r A cap l w w' := ⟨h.r.below hb h.r.lt, h.p.below hb, h.b.trans (hb.mono h.b.size)⟩
theorem LK.start {r : Rc} {A : Option Addr} {cap : Nat} {l : List Pl} {w : World} (h : PlIn w A cap l) : LK r A cap l w (w.alloc (.cells #[.int .i64 r.X0, .int .i64 r.Y0, .int .i64 r.X1, .int .i64 r.Y1] 23)) :=
  have hb := (Below.refl w.heap.size w).alloc (Nat.le_refl _) (.cells #[.int .i64 r.X0, .int .i64 r.Y0, .int .i64 r.X1, .int .i64 r.Y1] 23)
  ⟨RcAt.new w r _ rfl, h.below hb, hb⟩
theorem form_empty {F : List Rc} (h : IsForm F) (hn : ∀ x y, ¬ HasL F x y) : F = [] := by
  cases F with
  | nil => rfl
  | cons q F =>
    have ok := form_ok h q (by simp)
    exact absurd ⟨q, by simp, ok, Int.le_refl _, ok.1.2.1, Int.le_refl _, ok.2.2.1⟩ (hn q.X0 q.Y0)
theorem diff_nil {F G : List Rc} (hF : RegP F) (hG : RegP G) (h : ∀ x y, HasL F x y → HasL G x y) : opR andnot F G = ([], 0) := by
  have k := formO_is (op := andnot) rfl (form_ok hF.1) (form_ok hG.1)
  have e : formO andnot F G = [] := form_empty k.1 (fun x y hh => by
    rw [k.2] at hh
    have e1 := hasB_iff F x y
    have e2 := hasB_iff G x y
    have e3 := h x y
    rw [← e1, ← e2] at e3
    cases c1 : hasB F x y <;> cases c2 : hasB G x y <;> rw [c1, c2] at hh e3 <;> simp [andnot] at hh e3)
  unfold opR capR
  rw [if_pos ⟨hF, hG⟩, e]
  rfl
theorem topH_take (r : Rc) (l : List Pl) (n : Nat) (x y : Int) : topH r l x y ≤ topH r (l.take n) x y := by
  have h := (topK_le r x y l (topK r l x y)).1 (Int.le_refl _)
  have k : topK r l x y ≤ topK r (l.take n) x y := (topK_le r x y _ _).2 ⟨h.1, fun p hp => h.2 p (List.mem_of_mem_take hp)⟩
  unfold topH; omega
theorem ArgOk.take {r : Rc} {l : List Pl} (h : ArgOk r l) (n : Nat) : ArgOk r (l.take n) := ⟨h.1, fun p hp => h.2 p (List.mem_of_mem_take hp)⟩
/-- what the slice of some planes reads. -/
def Rx5 (gb : Nat) (r : Rc) (W w' : World) : Prop := w'.cell? ⟨gb, 0, none⟩ = some (.int .i64 r.X0) ∧ w'.cell? ⟨gb, 1, none⟩ = some (.int .i64 r.Y0) ∧ w'.cell? ⟨gb, 2, none⟩ = some (.int .i64 r.X1) ∧ w'.cell? ⟨gb, 3, none⟩ = some (.int .i64 r.Y1) ∧ gb < w'.heap.size ∧ Hid (Below W.heap.size W w')
theorem Rx5.go {gb : Nat} {r : Rc} {W w w' : World} (h : Rx5 gb r W w) (hb : Below w.heap.size w w') : Rx5 gb r W w' := by
  obtain ⟨c0, c1, c2, c3, l2, h5⟩ := h
  have wd := fun o => hb.cell (p := ⟨gb, o, none⟩) l2
  exact ⟨(wd _).trans c0, (wd _).trans c1, (wd _).trans c2, (wd _).trans c3, Nat.lt_of_lt_of_le l2 hb.size, Lib.hid (h5.out.trans (hb.mono h5.out.size))⟩
theorem Rx5.drewN {gb : Nat} {r : Rc} {W w : World} (h : Rx5 gb r W w) (n : Nat) : Rx5 gb r W (w.drewN n) := h.go (below_drewN (Below.refl _ _) n)
theorem Rx5.bel {gb : Nat} {r : Rc} {W w : World} (h : Rx5 gb r W w) : Below W.heap.size W w := h.2.2.2.2.2.out
def RmN (F : List Rc) (n : Nat) (er : Int) (w : World) (e : Ending) (w' : World) : Prop := ∃ A, e = .returned (.tuple #[.slice A n n, .int .i64 er]) ∧ RIn w' A n F ∧ Below w.heap.size w w'
theorem RmE.n {x : List Rc × Int} (hl : x.1.length ≤ 1) {w w' : World} {e : Ending} (h : RmE x w e w') : RmN x.1 x.1.length x.2 w e w' := by
  obtain ⟨A, rfl, hr, hb⟩ := h
  exact ⟨A, rfl, ⟨hr, by omega, Nat.le_refl _, by omega⟩, hb⟩
set_option maxHeartbeats 8000000 in
theorem rooms_many0 (r : Rc) (A : Option Addr) (cap : Nat) (l : List Pl) (x y z zw many : Int) (w : World) (hn : 12 < l.length) :
    Calls Try.prog 4 #[.agg #[.int .i64 r.X0, .int .i64 r.Y0, .int .i64 r.X1, .int .i64 r.Y1], .slice A l.length cap, .int .i64 x, .int .i64 y, .int .i64 z, .int .i64 zw, .int .i64 many] w (BlIs true w) := by
  have n12 : (12 : Int) < (l.length : Int) := by omega
  have HB : Hid (Below w.heap.size w (w.alloc (.cells #[.int .i64 r.X0, .int .i64 r.Y0, .int .i64 r.X1, .int .i64 r.Y1] 23))) := Lib.hid ((Below.refl _ _).alloc (Nat.le_refl _) _)
  have HSM := Lib.hid (fun w' => msmall_any w')
  go_enter Try.func4, Try.ntmps4
  go_wp2_with fail
  generalize World.alloc w _ = w0 at *
  refine (HSM.out _).mono ?_
  rintro e w1 ⟨rfl, hb⟩
  have HB1 := Lib.hid (HB.out.trans (hb.mono HB.out.size)); clear hb HB
  go_wp2_with fail
  go_ret
  exact ⟨rfl, HB1.out⟩
set_option maxHeartbeats 40000000 in
theorem rooms_arg (r : Rc) (A : Option Addr) (cap : Nat) (l : List Pl) (x y z zw many : Int) (w : World) (hl : PlIn w A cap l) (hn : l.length ≤ 12) (hc : ¬ ArgOk r l) :
    Calls Try.prog 4 #[.agg #[.int .i64 r.X0, .int .i64 r.Y0, .int .i64 r.X1, .int .i64 r.Y1], .slice A l.length cap, .int .i64 x, .int .i64 y, .int .i64 z, .int .i64 zw, .int .i64 many] w (BlIs true w) := by
  have n12 : ¬ (12 : Int) < (l.length : Int) := by omega
  have K := Lib.hid (LK.start (r := r) hl)
  have HSM := Lib.hid (fun w' => msmall_any w')
  have HRM := Lib.hid (fun w' (h : Below w.heap.size w w') => show Calls Try.prog 12 #[.agg #[.int .i64 r.X0, .int .i64 r.Y0, .int .i64 r.X1, .int .i64 r.Y1], .slice A l.length cap, .int .i64 z] w' (RmN [] 0 1 w') from by
    have h1 := kRoom_any r A cap l z w' (hl.below h)
    rw [show RoomIs r l z = ([], 1) by unfold RoomIs; rw [if_neg hc]] at h1
    exact h1.mono fun e w2 k => k.n (by simp))
  have HV := Lib.hid (fun w' (h : Below w.heap.size w w') => show Calls Try.prog 10 #[.agg #[.int .i64 r.X0, .int .i64 r.Y0, .int .i64 r.X1, .int .i64 r.Y1], .slice A l.length cap] w' (BlIs false w') from by
    have h1 := mvalid_any r A cap l w' (hl.below h)
    rw [decide_eq_false hc] at h1; exact h1)
  clear hl hc
  go_enter Try.func4, Try.ntmps4
  go_wp2_with fail
  generalize World.alloc w _ = w0 at *
  refine (HSM.out _).mono ?_
  rintro e w1 ⟨rfl, hb⟩
  replace K := Lib.hid (K.out.go hb)
  clear hb
  have x0 := K.out.r.cell0; have x1 := K.out.r.cell1; have x2 := K.out.r.cell2; have x3 := K.out.r.cell3; have xl := K.out.r.lt
  go_wp2_with fail
  refine (HRM.out _ K.out.b).mono ?_
  rintro e w2 ⟨A7, rfl, hr7, hb⟩
  replace K := Lib.hid (K.out.go hb)
  clear hr7
  clear x0 x1 x2 x3 xl
  clear hb
  have x0 := K.out.r.cell0; have x1 := K.out.r.cell1; have x2 := K.out.r.cell2; have x3 := K.out.r.cell3; have xl := K.out.r.lt
  by_cases c0 : 0 ≤ z
  · by_cases c1 : z ≤ 4096
    · go_wp2_with fail
      refine (HV.out _ K.out.b).mono ?_
      rintro e w3 ⟨rfl, hb⟩
      replace K := Lib.hid (K.out.go hb)
      clear x0 x1 x2 x3 xl
      clear hb
      go_wp2_with fail
      go_ret
      exact ⟨rfl, K.out.b⟩
    · go_wp2_with fail
      refine (HV.out _ K.out.b).mono ?_
      rintro e w3 ⟨rfl, hb⟩
      replace K := Lib.hid (K.out.go hb)
      clear x0 x1 x2 x3 xl
      clear hb
      go_wp2_with fail
      go_ret
      exact ⟨rfl, K.out.b⟩
  · go_wp2_with fail
    refine (HV.out _ K.out.b).mono ?_
    rintro e w3 ⟨rfl, hb⟩
    replace K := Lib.hid (K.out.go hb)
    clear x0 x1 x2 x3 xl
    clear hb
    go_wp2_with fail
    go_ret
    exact ⟨rfl, K.out.b⟩
set_option maxHeartbeats 40000000 in
theorem rooms_in (r : Rc) (A : Option Addr) (cap : Nat) (l : List Pl) (x y z zw many : Int) (w : World) (hl : PlIn w A cap l) (hn : l.length ≤ 12) (hc : ArgOk r l) (hz : ¬ (0 ≤ z ∧ z ≤ 4096)) :
    Calls Try.prog 4 #[.agg #[.int .i64 r.X0, .int .i64 r.Y0, .int .i64 r.X1, .int .i64 r.Y1], .slice A l.length cap, .int .i64 x, .int .i64 y, .int .i64 z, .int .i64 zw, .int .i64 many] w (BlIs true w) := by
  have n12 : ¬ (12 : Int) < (l.length : Int) := by omega
  have K := Lib.hid (LK.start (r := r) hl)
  have HSM := Lib.hid (fun w' => msmall_any w')
  have HRM := Lib.hid (fun w' (h : Below w.heap.size w w') => show Calls Try.prog 12 #[.agg #[.int .i64 r.X0, .int .i64 r.Y0, .int .i64 r.X1, .int .i64 r.Y1], .slice A l.length cap, .int .i64 z] w' (RmN [] 0 3 w') from by
    have h1 := kRoom_any r A cap l z w' (hl.below h)
    rw [show RoomIs r l z = ([], 3) by unfold RoomIs; rw [if_pos hc, if_neg hz]] at h1
    exact h1.mono fun e w2 k => k.n (by simp))
  have HV := Lib.hid (fun w' (h : Below w.heap.size w w') => show Calls Try.prog 10 #[.agg #[.int .i64 r.X0, .int .i64 r.Y0, .int .i64 r.X1, .int .i64 r.Y1], .slice A l.length cap] w' (BlIs true w') from by
    have h1 := mvalid_any r A cap l w' (hl.below h)
    rw [decide_eq_true hc] at h1; exact h1)
  clear hl hc
  go_enter Try.func4, Try.ntmps4
  go_wp2_with fail
  generalize World.alloc w _ = w0 at *
  refine (HSM.out _).mono ?_
  rintro e w1 ⟨rfl, hb⟩
  replace K := Lib.hid (K.out.go hb)
  clear hb
  have x0 := K.out.r.cell0; have x1 := K.out.r.cell1; have x2 := K.out.r.cell2; have x3 := K.out.r.cell3; have xl := K.out.r.lt
  go_wp2_with fail
  refine (HRM.out _ K.out.b).mono ?_
  rintro e w2 ⟨A7, rfl, hr7, hb⟩
  replace K := Lib.hid (K.out.go hb)
  clear hr7
  clear x0 x1 x2 x3 xl
  clear hb
  have x0 := K.out.r.cell0; have x1 := K.out.r.cell1; have x2 := K.out.r.cell2; have x3 := K.out.r.cell3; have xl := K.out.r.lt
  have HZ := Lib.hid hz
  clear hz
  by_cases c0 : 0 ≤ z
  · have c1 : ¬ z ≤ 4096 := fun h => HZ.out ⟨c0, h⟩
    have d1 : decide (z ≤ 4096) = false := decide_eq_false c1
    go_wp2_with fail
    refine (HV.out _ K.out.b).mono ?_
    rintro e w3 ⟨rfl, hb⟩
    replace K := Lib.hid (K.out.go hb)
    clear x0 x1 x2 x3 xl
    clear hb
    go_wp2_with fail
    go_ret
    exact ⟨rfl, K.out.b⟩
  · go_wp2_with fail
    refine (HV.out _ K.out.b).mono ?_
    rintro e w3 ⟨rfl, hb⟩
    replace K := Lib.hid (K.out.go hb)
    clear x0 x1 x2 x3 xl
    clear hb
    go_wp2_with fail
    go_ret
    exact ⟨rfl, K.out.b⟩
set_option maxHeartbeats 40000000 in
theorem rooms_ok (r : Rc) (A : Option Addr) (cap : Nat) (l : List Pl) (x y z zw many : Int) (w : World) (hl : PlIn w A cap l) (hn : l.length ≤ 12) (hc : ArgOk r l) (hz : 0 ≤ z ∧ z ≤ 4096) :
    Calls Try.prog 4 #[.agg #[.int .i64 r.X0, .int .i64 r.Y0, .int .i64 r.X1, .int .i64 r.Y1], .slice A l.length cap, .int .i64 x, .int .i64 y, .int .i64 z, .int .i64 zw, .int .i64 many] w (BlIs true w) := by
  have n12 : ¬ (12 : Int) < (l.length : Int) := by omega
  have K := Lib.hid (LK.start (r := r) hl)
  have HSM := Lib.hid (fun w' => msmall_any w')
  have HA := Lib.hid hc
  obtain ⟨c0, c1⟩ := hz
  obtain ⟨zc, hzc⟩ : ∃ zc, min (max z zw) 4096 = zc := ⟨_, rfl⟩
  have z0 : 0 ≤ zc ∧ zc ≤ 4096 ∧ z ≤ zc := by omega
  obtain ⟨nm, hnm⟩ : ∃ nm : Int, max 0 (min many (l.length : Int)) = nm := ⟨_, rfl⟩
  obtain ⟨n, rfl⟩ : ∃ n : Nat, nm = (n : Int) := ⟨nm.toNat, by omega⟩
  have nl : n ≤ l.length := by omega
  have htl : (l.take n).length = n := by rw [List.length_take]; omega
  have rh := fun u v => room_has hc.1 hc.2 c0 c1 u v
  have rhc := fun u v => room_has hc.1 hc.2 z0.1 z0.2.1 u v
  have rhd := fun u v => room_has (hc.take n).1 (hc.take n).2 c0 c1 u v
  have RA := room_reg (room_ok r l z) (room_len r l z)
  have RC := room_reg (room_ok r l zc) (room_len r l zc)
  have RD := room_reg (room_ok r (l.take n) z) (room_len r (l.take n) z)
  have DO := diff_nil RC RA (fun u v h => (rh u v).2 ⟨((rhc u v).1 h).1, by have := ((rhc u v).1 h).2; omega⟩)
  have DM := diff_nil RA RD (fun u v h => (rhd u v).2 ⟨((rh u v).1 h).1, by have := ((rh u v).1 h).2; have := topH_take r l n u v; omega⟩)
  have HHS : Hid (hasD (roomS r l z) x y = (decide (GC x y) && decide (z ≤ topH r l x y))) := Lib.hid (by rw [Bool.eq_iff_iff, hasD_iff, rh, Bool.and_eq_true, decide_eq_true_iff, decide_eq_true_iff])
  have la := room_len r l z
  have RMA := Lib.hid (fun w' (h : Below w.heap.size w w') => show Calls Try.prog 12 #[.agg #[.int .i64 r.X0, .int .i64 r.Y0, .int .i64 r.X1, .int .i64 r.Y1], .slice A l.length cap, .int .i64 z] w' (RmN (roomS r l z) (roomS r l z).length 0 w') from by
    have h1 := kRoom_any r A cap l z w' (hl.below h)
    rw [show RoomIs r l z = (roomS r l z, 0) by unfold RoomIs; rw [if_pos hc, if_pos ⟨c0, c1⟩]] at h1
    exact h1.mono fun e w2 k => k.n (room_len r l z))
  have RMC := Lib.hid (fun w' (h : Below w.heap.size w w') => show Calls Try.prog 12 #[.agg #[.int .i64 r.X0, .int .i64 r.Y0, .int .i64 r.X1, .int .i64 r.Y1], .slice A l.length cap, .int .i64 zc] w' (RmN (roomS r l zc) (roomS r l zc).length 0 w') from by
    have h1 := kRoom_any r A cap l zc w' (hl.below h)
    rw [show RoomIs r l zc = (roomS r l zc, 0) by unfold RoomIs; rw [if_pos hc, if_pos ⟨z0.1, z0.2.1⟩]] at h1
    exact h1.mono fun e w2 k => k.n (room_len r l zc))
  have RMD := Lib.hid (fun w' (h : Below w.heap.size w w') => show Calls Try.prog 12 #[.agg #[.int .i64 r.X0, .int .i64 r.Y0, .int .i64 r.X1, .int .i64 r.Y1], .slice A n cap, .int .i64 z] w' (RmN (roomS r (l.take n) z) (roomS r (l.take n) z).length 0 w') from by
    have h1 := kRoom_any r A cap (l.take n) z w' ((hl.below h).take n)
    rw [htl, show RoomIs r (l.take n) z = (roomS r (l.take n) z, 0) by unfold RoomIs; rw [if_pos (hc.take n), if_pos ⟨c0, c1⟩]] at h1
    exact h1.mono fun e w2 k => k.n (room_len r (l.take n) z))
  have HV := Lib.hid (fun w' (h : Below w.heap.size w w') => show Calls Try.prog 10 #[.agg #[.int .i64 r.X0, .int .i64 r.Y0, .int .i64 r.X1, .int .i64 r.Y1], .slice A l.length cap] w' (BlIs true w') from by
    have h1 := mvalid_any r A cap l w' (hl.below h)
    rw [decide_eq_true hc] at h1; exact h1)
  have HTP := Lib.hid (fun w' (h : Below w.heap.size w w') (g : GC x y) => show Calls Try.prog 9 #[.agg #[.int .i64 r.X0, .int .i64 r.Y0, .int .i64 r.X1, .int .i64 r.Y1], .slice A l.length cap, .int .i64 x, .int .i64 y] w' (InIs (topH r l x y) w') from by
    have h1 := kTop_any r A cap l x y w' (hl.below h)
    rw [show TopIs r l x y = topH r l x y from if_pos ⟨hc, g⟩] at h1; exact h1)
  have HGA := Lib.hid (fun w' A7 (h : RIn w' A7 (roomS r l z).length (roomS r l z)) => gright_yes A7 _ (roomS r l z) w' h.row h.len h.room h.room2 RA)
  have HGC := Lib.hid (fun w' A7 (h : RIn w' A7 (roomS r l zc).length (roomS r l zc)) => gright_yes A7 _ (roomS r l zc) w' h.row h.len h.room h.room2 RC)
  have HGD := Lib.hid (fun w' A7 (h : RIn w' A7 (roomS r (l.take n) z).length (roomS r (l.take n) z)) => gright_yes A7 _ (roomS r (l.take n) z) w' h.row h.len h.room h.room2 RD)
  have HMO := Lib.hid (fun w' A7 A8 (h7 : RIn w' A7 (roomS r l zc).length (roomS r l zc)) (h8 : RIn w' A8 (roomS r l z).length (roomS r l z)) => show Calls Try.prog 14 #[.slice A7 (roomS r l zc).length (roomS r l zc).length, .slice A8 (roomS r l z).length (roomS r l z).length] w' (RR [] 0 0 w') from by
    have h1 := gminus_any A7 _ A8 _ (roomS r l zc) (roomS r l z) w' h7 h8
    rw [DO] at h1
    exact h1.mono fun e w2 k => k.rr (by simp))
  have HMM := Lib.hid (fun w' A7 A8 (h7 : RIn w' A7 (roomS r l z).length (roomS r l z)) (h8 : RIn w' A8 (roomS r (l.take n) z).length (roomS r (l.take n) z)) => show Calls Try.prog 14 #[.slice A7 (roomS r l z).length (roomS r l z).length, .slice A8 (roomS r (l.take n) z).length (roomS r (l.take n) z).length] w' (RR [] 0 0 w') from by
    have h1 := gminus_any A7 _ A8 _ (roomS r l z) (roomS r (l.take n) z) w' h7 h8
    rw [DM] at h1
    exact h1.mono fun e w2 k => k.rr (by simp))
  have HHA := Lib.hid (fun w' A7 (h : RIn w' A7 (roomS r l z).length (roomS r l z)) => show Calls Try.prog 15 #[.slice A7 (roomS r l z).length (roomS r l z).length, .int .i64 x, .int .i64 y] w' (BlIs (decide (GC x y) && decide (z ≤ topH r l x y)) w') from by
    have h1 := ghas_any A7 _ (roomS r l z) x y w' h
    rw [show hasRg (roomS r l z) x y = hasD (roomS r l z) x y from by unfold hasRg; rw [decide_eq_true RA, Bool.true_and, Bool.eq_iff_iff, hasB_iff, hasD_iff], HHS.out] at h1; exact h1)
  generalize topH r l x y = tp at *
  generalize roomS r l z = FA at *
  generalize roomS r l zc = FC9 at *
  generalize roomS r (l.take n) z = FD at *
  have la' : ¬ (1 : Int) < (FA.length : Int) := by omega
  generalize FA.length = nA at *
  generalize FC9.length = nC at *
  generalize FD.length = nD at *
  clear hl hc rh rhc rhd RA RC RD DO DM HHS htl la z0
  go_enter Try.func4, Try.ntmps4
  go_wp2_with fail
  generalize World.alloc w _ = w0 at *
  refine (HSM.out _).mono ?_
  rintro e w1 ⟨rfl, hb⟩
  replace K := Lib.hid (K.out.go hb)
  clear hb
  have x0 := K.out.r.cell0; have x1 := K.out.r.cell1; have x2 := K.out.r.cell2; have x3 := K.out.r.cell3; have xl := K.out.r.lt
  go_wp2_with fail
  refine (RMA.out _ K.out.b).mono ?_
  rintro e w2 ⟨A7, rfl, hr7, hb⟩
  replace K := Lib.hid (K.out.go hb)
  have H7 := Lib.hid hr7
  clear hr7
  clear x0 x1 x2 x3 xl
  clear hb
  have x0 := K.out.r.cell0; have x1 := K.out.r.cell1; have x2 := K.out.r.cell2; have x3 := K.out.r.cell3; have xl := K.out.r.lt
  go_wp2_with fail
  refine (HV.out _ K.out.b).mono ?_
  rintro e w3 ⟨rfl, hb⟩
  replace K := Lib.hid (K.out.go hb)
  replace H7 := Lib.hid (H7.out.below hb)
  clear x0 x1 x2 x3 xl
  clear hb
  have x0 := K.out.r.cell0; have x1 := K.out.r.cell1; have x2 := K.out.r.cell2; have x3 := K.out.r.cell3; have xl := K.out.r.lt
  go_wp2_with fail
  refine (HGA.out _ _ H7.out).mono ?_
  rintro e w4 ⟨rfl, hb⟩
  replace K := Lib.hid (K.out.go hb)
  replace H7 := Lib.hid (H7.out.below hb)
  clear x0 x1 x2 x3 xl
  clear hb
  have x0 := K.out.r.cell0; have x1 := K.out.r.cell1; have x2 := K.out.r.cell2; have x3 := K.out.r.cell3; have xl := K.out.r.lt
  go_wp2_with fail
  refine (RMC.out _ K.out.b).mono ?_
  rintro e w5 ⟨A8, rfl, hr8, hb⟩
  replace K := Lib.hid (K.out.go hb)
  replace H7 := Lib.hid (H7.out.below hb)
  have H8 := Lib.hid hr8
  clear hr8
  clear x0 x1 x2 x3 xl
  clear hb
  go_wp2_with fail
  obtain ⟨wd, hwd⟩ : ∃ wd, wd = w5 := ⟨_, rfl⟩
  rw [← hwd] at K H7 H8 ⊢
  clear hwd
  have E1 : Hid (Rx5 w.heap.size r w wd) := Lib.hid ⟨K.out.r.cell0, K.out.r.cell1, K.out.r.cell2, K.out.r.cell3, K.out.r.lt, Lib.hid K.out.b⟩
  have hcap := K.out.p.room
  have hcap2 := K.out.p.room2
  have hlen9 := K.out.p.len
  have s0 : (0 : Int) ≤ (n : Int) := by omega
  have s1 : (n : Int) ≤ (cap : Int) := by omega
  go_region_held3 (fun w' => w'.cell? ⟨w.heap.size, 0, none⟩ = some (.int .i64 r.X0) ∧ w'.cell? ⟨w.heap.size, 1, none⟩ = some (.int .i64 r.Y0) ∧ w'.cell? ⟨w.heap.size, 2, none⟩ = some (.int .i64 r.X1) ∧ w'.cell? ⟨w.heap.size, 3, none⟩ = some (.int .i64 r.Y1) ∧ w.heap.size < w'.heap.size ∧ Hid (Below w.heap.size w w'))
    (first | exact E1.out | exact Rx5.drewN E1.out 1 | exact Rx5.go ‹_› ‹_› | assumption)
    (first | (go_at_call 12; (with_reducible refine Calls.mono (RMD.out _ ?_) ?_); (exact Rx5.bel (Rx5.drewN E1.out 1)); rintro e w20 ⟨A9, rfl, hr9, hb⟩) | fail)
  have E2 : Rx5 w.heap.size r w w20 := by assumption
  have hbd : Below wd.heap.size wd w20 := (below_drewN (Below.refl _ _) 1).trans hb
  have H9 := Lib.hid hr9
  clear E1 E2 hr9 hb
  replace K := Lib.hid (K.out.go hbd)
  replace H7 := Lib.hid (H7.out.below hbd)
  replace H8 := Lib.hid (H8.out.below hbd)
  clear hbd
  go_wp2_with fail
  refine (HMO.out _ _ _ H8.out H7.out).mono ?_
  rintro e w21 ⟨A10, c10, rfl, _, hb⟩
  replace K := Lib.hid (K.out.go hb)
  replace H7 := Lib.hid (H7.out.below hb)
  replace H8 := Lib.hid (H8.out.below hb)
  replace H9 := Lib.hid (H9.out.below hb)
  clear hb
  go_wp2_with fail
  refine (HMM.out _ _ _ H7.out H9.out).mono ?_
  rintro e w22 ⟨A11, c11, rfl, _, hb⟩
  replace K := Lib.hid (K.out.go hb)
  replace H7 := Lib.hid (H7.out.below hb)
  replace H8 := Lib.hid (H8.out.below hb)
  replace H9 := Lib.hid (H9.out.below hb)
  clear hb
  go_wp2_with fail
  refine (HGC.out _ _ H8.out).mono ?_
  rintro e w23 ⟨rfl, hb⟩
  replace K := Lib.hid (K.out.go hb)
  replace H7 := Lib.hid (H7.out.below hb)
  replace H8 := Lib.hid (H8.out.below hb)
  replace H9 := Lib.hid (H9.out.below hb)
  clear hb
  go_wp2_with fail
  refine (HGD.out _ _ H9.out).mono ?_
  rintro e w24 ⟨rfl, hb⟩
  replace K := Lib.hid (K.out.go hb)
  replace H7 := Lib.hid (H7.out.below hb)
  replace H8 := Lib.hid (H8.out.below hb)
  replace H9 := Lib.hid (H9.out.below hb)
  clear hb
  have x0 := K.out.r.cell0; have x1 := K.out.r.cell1; have x2 := K.out.r.cell2; have x3 := K.out.r.cell3; have xl := K.out.r.lt
  have g7 := H7
  by_cases g : GC x y
  · rw [decide_eq_true g] at HHA
    have HTQ := Lib.hid (fun w' h => HTP.out w' h g)
    obtain ⟨⟨gx0, gx1⟩, gy0, gy1⟩ := g
    cases hq : decide (z ≤ tp)
    · rw [hq] at HHA
      clear HTP
      have hq2 : ¬ z ≤ tp := of_decide_eq_false hq
      go_wp2_with fail
      refine (HHA.out _ _ g7.out).mono ?_
      rintro e w25 ⟨rfl, hb⟩
      replace K := Lib.hid (K.out.go hb)
      clear x0 x1 x2 x3 xl
      clear hb
      have x0 := K.out.r.cell0; have x1 := K.out.r.cell1; have x2 := K.out.r.cell2; have x3 := K.out.r.cell3; have xl := K.out.r.lt
      go_wp2_with fail
      refine (HTQ.out _ K.out.b).mono ?_
      rintro e w26 ⟨rfl, hb⟩
      replace K := Lib.hid (K.out.go hb)
      clear x0 x1 x2 x3 xl
      clear hb
      go_wp2_with fail
      go_ret
      exact ⟨by rfl, K.out.b⟩
    · rw [hq] at HHA
      clear HTP
      have hq2 : z ≤ tp := of_decide_eq_true hq
      go_wp2_with fail
      refine (HHA.out _ _ g7.out).mono ?_
      rintro e w25 ⟨rfl, hb⟩
      replace K := Lib.hid (K.out.go hb)
      clear x0 x1 x2 x3 xl
      clear hb
      have x0 := K.out.r.cell0; have x1 := K.out.r.cell1; have x2 := K.out.r.cell2; have x3 := K.out.r.cell3; have xl := K.out.r.lt
      go_wp2_with fail
      refine (HTQ.out _ K.out.b).mono ?_
      rintro e w26 ⟨rfl, hb⟩
      replace K := Lib.hid (K.out.go hb)
      clear x0 x1 x2 x3 xl
      clear hb
      go_wp2_with fail
      go_ret
      exact ⟨by rfl, K.out.b⟩
  · rw [decide_eq_false g, Bool.false_and] at HHA
    clear HTP
    have hg := g
    unfold GC at hg
    clear g
    by_cases d0 : 0 ≤ x
    · by_cases d1 : x < 1048576
      · by_cases d2 : 0 ≤ y
        · by_cases d3 : y < 1048576
          · exact absurd ⟨⟨d0, d1⟩, d2, d3⟩ hg
          · go_wp2_with fail
            refine (HHA.out _ _ g7.out).mono ?_
            rintro e w25 ⟨rfl, hb⟩
            replace K := Lib.hid (K.out.go hb)
            clear x0 x1 x2 x3 xl
            clear hb
            go_wp2_with fail
            go_ret
            exact ⟨by rfl, K.out.b⟩
        · go_wp2_with fail
          refine (HHA.out _ _ g7.out).mono ?_
          rintro e w25 ⟨rfl, hb⟩
          replace K := Lib.hid (K.out.go hb)
          clear x0 x1 x2 x3 xl
          clear hb
          go_wp2_with fail
          go_ret
          exact ⟨by rfl, K.out.b⟩
      · go_wp2_with fail
        refine (HHA.out _ _ g7.out).mono ?_
        rintro e w25 ⟨rfl, hb⟩
        replace K := Lib.hid (K.out.go hb)
        clear x0 x1 x2 x3 xl
        clear hb
        go_wp2_with fail
        go_ret
        exact ⟨by rfl, K.out.b⟩
    · go_wp2_with fail
      refine (HHA.out _ _ g7.out).mono ?_
      rintro e w25 ⟨rfl, hb⟩
      replace K := Lib.hid (K.out.go hb)
      clear x0 x1 x2 x3 xl
      clear hb
      go_wp2_with fail
      go_ret
      exact ⟨by rfl, K.out.b⟩
theorem rooms_walk (r : Rc) (A : Option Addr) (cap : Nat) (l : List Pl) (x y z zw many : Int) (w : World) (h0 : PlRow w A l) (h1 : l.length ≤ cap) (h2 : cap ≤ 9223372036854775807) :
    Calls Try.prog 4 #[.agg #[.int .i64 r.X0, .int .i64 r.Y0, .int .i64 r.X1, .int .i64 r.Y1], .slice A l.length cap, .int .i64 x, .int .i64 y, .int .i64 z, .int .i64 zw, .int .i64 many] w (BlIs true w) := by
  by_cases hn : 12 < l.length
  · exact rooms_many0 r A cap l x y z zw many w hn
  · have hl : PlIn w A cap l := ⟨h0, by omega, h1, h2⟩
    by_cases hc : ArgOk r l
    · by_cases hz : 0 ≤ z ∧ z ≤ 4096
      · exact rooms_ok r A cap l x y z zw many w hl (by omega) hc hz
      · exact rooms_in r A cap l x y z zw many w hl (by omega) hc hz
    · exact rooms_arg r A cap l x y z zw many w hl (by omega) hc
end Go.Proofs.Ytppomhgknhmceaa
