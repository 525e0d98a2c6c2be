/-
  PlaneUnions: the walk.
-/
import Derived.Test.YtppomhgknhmceaaGreatDw
import Derived.Deep.DeepCutAuto
set_option linter.unusedVariables false
set_option maxRecDepth 100000
namespace Go.Proofs.YtppomhgknhmceaaGreat
open Go.RowKit

theorem AllB.take {r : Rc} {l : List Pl} {S : List Sl} (h : AllB r l S) (n : Nat) : AllB r (l.take n) S := fun x y z k => Int.lt_of_lt_of_le (h x y z k) (topH_take r l n x y)
theorem all_or {r : Rc} {l : List Pl} {S M : List Sl} (hS : SForm S) (hM : SForm M) : AllB r l (solO or S M) ↔ AllB r l S ∧ AllB r l M := by
  have k := cs_or (CS.self hS) (CS.self hM)
  constructor
  · intro h; exact ⟨fun x y z hh => h x y z ((k.cubes x y z).2 (Or.inl hh)), fun x y z hh => h x y z ((k.cubes x y z).2 (Or.inr hh))⟩
  · rintro ⟨h1, h2⟩ x y z hh
    rcases (k.cubes x y z).1 hh with hh | hh
    · exact h1 x y z hh
    · exact h2 x y z hh
theorem all_and {r : Rc} {l : List Pl} {S M : List Sl} (hS : SForm S) (hM : SForm M) (h : AllB r l S) : AllB r l (solO and S M) := by
  have k := cs_and (CS.self hS) (CS.self hM)
  intro x y z hh; exact h x y z ((k.cubes x y z).1 hh).1
theorem all_not {r : Rc} {l : List Pl} {S M : List Sl} (hS : SForm S) (hM : SForm M) (h : AllB r l S) : AllB r l (solO andnot S M) := by
  have k := cs_not (CS.self hS) (CS.self hM)
  intro x y z hh; exact h x y z ((k.cubes x y z).1 hh).1
/-- a combination of two solids: it is one, or too large. -/
def Comb (F : List Sl) (x : List Sl × Int) : Prop := (x = (F, 0) ∧ SolP F) ∨ x = ([], 6)
theorem comb10 {op : Bool → Bool → Bool} (h0 : op false false = false) {S M : List Sl} (hS : SolP S) (hM : SolP M) : Comb (solO op S M) (opS op S M) := by
  rw [opS_cap hS hM]
  by_cases q : (solO op S M).length ≤ 80 ∧ ∀ s ∈ solO op S M, s.ar.length ≤ 200
  · exact Or.inl ⟨if_pos q, (solO_is h0 hS.form hM.form).1, q.1, q.2⟩
  · exact Or.inr (if_neg q)
set_option maxHeartbeats 80000000 in
theorem unions_many (r : Rc) (A : Option Addr) (cap : Nat) (l : List Pl) (A2 : Option Addr) (c2 : Nat) (s : List Bx) (A3 : Option Addr) (c3 : Nat) (t : List Bx) (many : Int) (w : World) (hn : ¬ (l.length ≤ 12 ∧ s.length ≤ 12)) :
    Calls Tryz.prog 7 #[.agg #[.int .i64 r.X0, .int .i64 r.Y0, .int .i64 r.X1, .int .i64 r.Y1], .slice A l.length cap, .slice A2 s.length c2, .slice A3 t.length c3, .int .i64 many] w (BlIs true w) := by
  have HB : Hid (Below w.heap.size w (w.alloc (.cells #[.int .i64 r.X0, .int .i64 r.Y0, .int .i64 r.X1, .int .i64 r.Y1] 33))) := Lib.hid ((Below.refl _ _).alloc (Nat.le_refl _) _)
  have HSM := Lib.hid (fun w' => msmall_any w')
  have HFW := Lib.hid (fun w' => mfew_any A cap l A2 c2 s w')
  rw [decide_eq_false hn] at HFW
  skip
  go_enter Tryz.func7, Tryz.ntmps7
  go_wp2_with fail
  generalize World.alloc w _ = w0 at *
  refine (HSM.out _).mono ?_
  rintro e w1 ⟨rfl, hb⟩
  have HB1 := Lib.hid (HB.out.trans (hb.mono HB.out.size)); clear hb HB
  go_wp2_with fail
  refine (HFW.out _).mono ?_
  rintro e w2 ⟨rfl, hb⟩
  have HB2 := Lib.hid (HB1.out.trans (hb.mono HB1.out.size)); clear hb HB1
  go_wp2_with fail
  go_ret
  exact ⟨rfl, HB2.out⟩
set_option maxHeartbeats 80000000 in
theorem unions_many2 (r : Rc) (A : Option Addr) (cap : Nat) (l : List Pl) (A2 : Option Addr) (c2 : Nat) (s : List Bx) (A3 : Option Addr) (c3 : Nat) (t : List Bx) (many : Int) (w : World) (hn : l.length ≤ 12 ∧ s.length ≤ 12) (ht : 12 < t.length) :
    Calls Tryz.prog 7 #[.agg #[.int .i64 r.X0, .int .i64 r.Y0, .int .i64 r.X1, .int .i64 r.Y1], .slice A l.length cap, .slice A2 s.length c2, .slice A3 t.length c3, .int .i64 many] w (BlIs true w) := by
  have HB : Hid (Below w.heap.size w (w.alloc (.cells #[.int .i64 r.X0, .int .i64 r.Y0, .int .i64 r.X1, .int .i64 r.Y1] 33))) := Lib.hid ((Below.refl _ _).alloc (Nat.le_refl _) _)
  have HSM := Lib.hid (fun w' => msmall_any w')
  have HFW := Lib.hid (fun w' => mfew_any A cap l A2 c2 s w')
  rw [decide_eq_true hn] at HFW
  have t12 : (12 : Int) < (t.length : Int) := by omega
  go_enter Tryz.func7, Tryz.ntmps7
  go_wp2_with fail
  generalize World.alloc w _ = w0 at *
  refine (HSM.out _).mono ?_
  rintro e w1 ⟨rfl, hb⟩
  have HB1 := Lib.hid (HB.out.trans (hb.mono HB.out.size)); clear hb HB
  go_wp2_with fail
  refine (HFW.out _).mono ?_
  rintro e w2 ⟨rfl, hb⟩
  have HB2 := Lib.hid (HB1.out.trans (hb.mono HB1.out.size)); clear hb HB1
  go_wp2_with fail
  go_ret
  exact ⟨rfl, HB2.out⟩
set_option maxHeartbeats 80000000 in
theorem unions_bad (r : Rc) (A : Option Addr) (cap : Nat) (l : List Pl) (A2 : Option Addr) (c2 : Nat) (s : List Bx) (A3 : Option Addr) (c3 : Nat) (t : List Bx) (many : Int) (w : World) (hl : PlIn w A cap l) (hn : l.length ≤ 12 ∧ s.length ≤ 12) (ht : t.length ≤ 12) (hbs : BxRow w A2 s) (hbt : BxRow w A3 t) (S M : List Sl) (e1 e2 : Int) (h1 : ofS s = (S, e1)) (h2 : ofS t = (M, e2)) (her : (e1 = 1 ∧ e2 = 0) ∨ (e1 = 0 ∧ e2 = 1) ∨ (e1 = 1 ∧ e2 = 1)) :
    Calls Tryz.prog 7 #[.agg #[.int .i64 r.X0, .int .i64 r.Y0, .int .i64 r.X1, .int .i64 r.Y1], .slice A l.length cap, .slice A2 s.length c2, .slice A3 t.length c3, .int .i64 many] w (BlIs true w) := by
  have t12 : ¬ (12 : Int) < (t.length : Int) := by omega
  have K := Lib.hid (LK.start (r := r) hl)
  have HSM := Lib.hid (fun w' => msmall_any w')
  have HFW := Lib.hid (fun w' => mfew_any A cap l A2 c2 s w')
  rw [decide_eq_true hn] at HFW
  have HO1 := Lib.hid (fun w' (h : Below w.heap.size w w') => show Calls Tryz.prog 11 #[.slice A2 s.length c2] w' (OfE S S.length e1 w') from by
    have h9 := bof_any A2 c2 s w' (hbs.below h) (by omega)
    rw [h1] at h9; exact h9)
  have HO2 := Lib.hid (fun w' (h : Below w.heap.size w w') => show Calls Tryz.prog 11 #[.slice A3 t.length c3] w' (OfE M M.length e2 w') from by
    have h9 := bof_any A3 c3 t w' (hbt.below h) (by omega)
    rw [h2] at h9; exact h9)
  generalize S.length = nS at *
  generalize M.length = nM at *
  clear hl hn hbs hbt h1 h2 ht
  rcases her with ⟨rfl, rfl⟩ | ⟨rfl, rfl⟩ | ⟨rfl, rfl⟩
  · go_enter Tryz.func7, Tryz.ntmps7
    go_wp2_with fail
    generalize World.alloc w _ = w0 at *
    refine (HSM.out _).mono ?_
    rintro e w1 ⟨rfl, hb⟩
    replace K := Lib.hid (K.out.go hb)
    clear hb
    go_wp2_with fail
    refine (HFW.out _).mono ?_
    rintro e w2 ⟨rfl, hb⟩
    replace K := Lib.hid (K.out.go hb)
    clear hb
    go_wp2_with fail
    refine (HO1.out _ K.out.b).mono ?_
    rintro e w3 ⟨A5, c5, rfl, hs5, hb⟩
    replace K := Lib.hid (K.out.go hb)
    have H5 := Lib.hid hs5
    clear hs5
    clear hb
    go_wp2_with fail
    refine (HO2.out _ K.out.b).mono ?_
    rintro e w4 ⟨A6, c6, rfl, hs6, hb⟩
    replace K := Lib.hid (K.out.go hb)
    replace H5 := Lib.hid (H5.out.below hb)
    have H6 := Lib.hid hs6
    clear hs6
    clear hb
    go_wp2_with fail
    go_ret
    exact ⟨rfl, K.out.b⟩
  · go_enter Tryz.func7, Tryz.ntmps7
    go_wp2_with fail
    generalize World.alloc w _ = w0 at *
    refine (HSM.out _).mono ?_
    rintro e w1 ⟨rfl, hb⟩
    replace K := Lib.hid (K.out.go hb)
    clear hb
    go_wp2_with fail
    refine (HFW.out _).mono ?_
    rintro e w2 ⟨rfl, hb⟩
    replace K := Lib.hid (K.out.go hb)
    clear hb
    go_wp2_with fail
    refine (HO1.out _ K.out.b).mono ?_
    rintro e w3 ⟨A5, c5, rfl, hs5, hb⟩
    replace K := Lib.hid (K.out.go hb)
    have H5 := Lib.hid hs5
    clear hs5
    clear hb
    go_wp2_with fail
    refine (HO2.out _ K.out.b).mono ?_
    rintro e w4 ⟨A6, c6, rfl, hs6, hb⟩
    replace K := Lib.hid (K.out.go hb)
    replace H5 := Lib.hid (H5.out.below hb)
    have H6 := Lib.hid hs6
    clear hs6
    clear hb
    go_wp2_with fail
    go_ret
    exact ⟨rfl, K.out.b⟩
  · go_enter Tryz.func7, Tryz.ntmps7
    go_wp2_with fail
    generalize World.alloc w _ = w0 at *
    refine (HSM.out _).mono ?_
    rintro e w1 ⟨rfl, hb⟩
    replace K := Lib.hid (K.out.go hb)
    clear hb
    go_wp2_with fail
    refine (HFW.out _).mono ?_
    rintro e w2 ⟨rfl, hb⟩
    replace K := Lib.hid (K.out.go hb)
    clear hb
    go_wp2_with fail
    refine (HO1.out _ K.out.b).mono ?_
    rintro e w3 ⟨A5, c5, rfl, hs5, hb⟩
    replace K := Lib.hid (K.out.go hb)
    have H5 := Lib.hid hs5
    clear hs5
    clear hb
    go_wp2_with fail
    refine (HO2.out _ K.out.b).mono ?_
    rintro e w4 ⟨A6, c6, rfl, hs6, hb⟩
    replace K := Lib.hid (K.out.go hb)
    replace H5 := Lib.hid (H5.out.below hb)
    have H6 := Lib.hid hs6
    clear hs6
    clear hb
    go_wp2_with fail
    go_ret
    exact ⟨rfl, K.out.b⟩
set_option maxHeartbeats 80000000 in
theorem unions_ok (r : Rc) (A : Option Addr) (cap : Nat) (l : List Pl) (A2 : Option Addr) (c2 : Nat) (s : List Bx) (A3 : Option Addr) (c3 : Nat) (t : List Bx) (many : Int) (w : World) (hl : PlIn w A cap l) (hn : l.length ≤ 12 ∧ s.length ≤ 12) (ht : t.length ≤ 12) (hbs : BxRow w A2 s) (hbt : BxRow w A3 t) (S M : List Sl) (h1 : ofS s = (S, 0)) (h2 : ofS t = (M, 0)) (hS : SolP S) (hM : SolP M) (o1 o2 v : Bool) (ho1 : o1 = true ↔ ArgOk r l ∧ AllB r l S) (ho2 : o2 = true ↔ ArgOk r l ∧ AllB r l M) (hv : v = true ↔ ArgOk r l) :
    Calls Tryz.prog 7 #[.agg #[.int .i64 r.X0, .int .i64 r.Y0, .int .i64 r.X1, .int .i64 r.Y1], .slice A l.length cap, .slice A2 s.length c2, .slice A3 t.length c3, .int .i64 many] w (BlIs true w) := by
  have t12 : ¬ (12 : Int) < (t.length : Int) := by omega
  have K := Lib.hid (LK.start (r := r) hl)
  have HSM := Lib.hid (fun w' => msmall_any w')
  have HFW := Lib.hid (fun w' => mfew_any A cap l A2 c2 s w')
  rw [decide_eq_true hn] at HFW
  have HO1 := Lib.hid (fun w' (h : Below w.heap.size w w') => show Calls Tryz.prog 11 #[.slice A2 s.length c2] w' (OfE S S.length 0 w') from by
    have h9 := bof_any A2 c2 s w' (hbs.below h) (by omega)
    rw [h1] at h9; exact h9)
  have HO2 := Lib.hid (fun w' (h : Below w.heap.size w w') => show Calls Tryz.prog 11 #[.slice A3 t.length c3] w' (OfE M M.length 0 w') from by
    have h9 := bof_any A3 c3 t w' (hbt.below h) (by omega)
    rw [h2] at h9; exact h9)
  have HA1 := Lib.hid (fun (w' : World) (h : Below w.heap.size w w') A9 c9 (hs : SIn w' A9 c9 S) => show Calls Tryz.prog 21 #[.agg #[.int .i64 r.X0, .int .i64 r.Y0, .int .i64 r.X1, .int .i64 r.Y1], .slice A l.length cap, .slice A9 S.length c9] w' (BlIs o1 w') from (kAllows_any r A cap l A9 c9 S w' (hl.below h) hs).mono fun e w2 k => AlIs.is (b := o1) ⟨fun h => ⟨⟨(ho1.1 h).1, hS⟩, (ho1.1 h).2⟩, fun h => ho1.2 ⟨h.1.1, h.2⟩⟩ k)
  have HA2 := Lib.hid (fun (w' : World) (h : Below w.heap.size w w') A9 c9 (hs : SIn w' A9 c9 M) => show Calls Tryz.prog 21 #[.agg #[.int .i64 r.X0, .int .i64 r.Y0, .int .i64 r.X1, .int .i64 r.Y1], .slice A l.length cap, .slice A9 M.length c9] w' (BlIs o2 w') from (kAllows_any r A cap l A9 c9 M w' (hl.below h) hs).mono fun e w2 k => AlIs.is (b := o2) ⟨fun h => ⟨⟨(ho2.1 h).1, hM⟩, (ho2.1 h).2⟩, fun h => ho2.2 ⟨h.1.1, h.2⟩⟩ k)
  have HV := Lib.hid (fun (w' : World) (h : Below w.heap.size w w') => show Calls Tryz.prog 29 #[.agg #[.int .i64 r.X0, .int .i64 r.Y0, .int .i64 r.X1, .int .i64 r.Y1], .slice A l.length cap] w' (BlIs v w') from by
    have h3 := mvalid_any r A cap l w' (hl.below h)
    rw [show decide (ArgOk r l) = v by rw [Bool.eq_iff_iff, decide_eq_true_iff, hv]] at h3; exact h3)
  have KU := comb10 (op := or) rfl hS hM
  have KM := comb10 (op := andnot) rfl hS hM
  have KI := comb10 (op := and) rfl hS hM
  have HU := Lib.hid (fun (w' : World) A5 c5 A6 c6 (h5 : SIn w' A5 c5 S) (h6 : SIn w' A6 c6 M) => bunion_any A5 c5 A6 c6 S M w' h5 h6)
  have HM := Lib.hid (fun (w' : World) A5 c5 A6 c6 (h5 : SIn w' A5 c5 S) (h6 : SIn w' A6 c6 M) => bminus_any A5 c5 A6 c6 S M w' h5 h6)
  have HI := Lib.hid (fun (w' : World) A5 c5 A6 c6 (h5 : SIn w' A5 c5 S) (h6 : SIn w' A6 c6 M) => bcommon_any A5 c5 A6 c6 S M w' h5 h6)
  have au := all_or (r := r) (l := l) hS.form hM.form
  have am := fun h => all_not (r := r) (l := l) hS.form hM.form h
  have ai := fun h => all_and (r := r) (l := l) hS.form hM.form h
  generalize solO or S M = FU at *
  generalize solO andnot S M = FM at *
  generalize solO and S M = FI at *
  generalize opS or S M = xu at *
  generalize opS andnot S M = xm at *
  generalize opS and S M = xi at *
  obtain ⟨LU, eu⟩ := xu
  obtain ⟨LM, em⟩ := xm
  obtain ⟨LI, ei⟩ := xi
  replace HU := Lib.hid (show ∀ (w' : World) A5 c5 A6 c6, SIn w' A5 c5 S → SIn w' A6 c6 M → Calls Tryz.prog 32 #[.slice A5 S.length c5, .slice A6 M.length c6] w' (OfE LU LU.length eu w') from HU.out)
  replace HM := Lib.hid (show ∀ (w' : World) A5 c5 A6 c6, SIn w' A5 c5 S → SIn w' A6 c6 M → Calls Tryz.prog 33 #[.slice A5 S.length c5, .slice A6 M.length c6] w' (OfE LM LM.length em w') from HM.out)
  replace HI := Lib.hid (show ∀ (w' : World) A5 c5 A6 c6, SIn w' A5 c5 S → SIn w' A6 c6 M → Calls Tryz.prog 34 #[.slice A5 S.length c5, .slice A6 M.length c6] w' (OfE LI LI.length ei w') from HI.out)
  have HAU := Lib.hid (fun (hq : LU = FU ∧ SolP FU) (w' : World) (h : Below w.heap.size w w') A9 c9 (hs : SIn w' A9 c9 LU) => show Calls Tryz.prog 21 #[.agg #[.int .i64 r.X0, .int .i64 r.Y0, .int .i64 r.X1, .int .i64 r.Y1], .slice A l.length cap, .slice A9 LU.length c9] w' (BlIs (o1 && o2) w') from (kAllows_any r A cap l A9 c9 LU w' (hl.below h) hs).mono fun e w2 k => AlIs.is (b := (o1 && o2)) (by
    obtain ⟨q1, q2⟩ := hq
    subst q1
    rw [Bool.and_eq_true, ho1, ho2, au]
    exact ⟨fun h => ⟨⟨h.1.1, q2⟩, h.1.2, h.2.2⟩, fun h => ⟨⟨h.1.1, h.2.1⟩, h.1.1, h.2.2⟩⟩) k)
  have HAM := Lib.hid (fun (hq : LM = FM ∧ SolP FM) (h1t : o1 = true) (w' : World) (h : Below w.heap.size w w') A9 c9 (hs : SIn w' A9 c9 LM) => show Calls Tryz.prog 21 #[.agg #[.int .i64 r.X0, .int .i64 r.Y0, .int .i64 r.X1, .int .i64 r.Y1], .slice A l.length cap, .slice A9 LM.length c9] w' (BlIs true w') from (kAllows_any r A cap l A9 c9 LM w' (hl.below h) hs).mono fun e w2 k => AlIs.is (b := true) (by
    obtain ⟨q1, q2⟩ := hq
    subst q1
    have q3 := ho1.1 h1t
    exact ⟨fun _ => ⟨⟨q3.1, q2⟩, am q3.2⟩, fun _ => rfl⟩) k)
  have HAI := Lib.hid (fun (hq : LI = FI ∧ SolP FI) (h1t : o1 = true) (w' : World) (h : Below w.heap.size w w') A9 c9 (hs : SIn w' A9 c9 LI) => show Calls Tryz.prog 21 #[.agg #[.int .i64 r.X0, .int .i64 r.Y0, .int .i64 r.X1, .int .i64 r.Y1], .slice A l.length cap, .slice A9 LI.length c9] w' (BlIs true w') from (kAllows_any r A cap l A9 c9 LI w' (hl.below h) hs).mono fun e w2 k => AlIs.is (b := true) (by
    obtain ⟨q1, q2⟩ := hq
    subst q1
    have q3 := ho1.1 h1t
    exact ⟨fun _ => ⟨⟨q3.1, q2⟩, ai q3.2⟩, fun _ => rfl⟩) k)
  replace KU : Hid ((eu = 0 ∧ LU = FU ∧ SolP FU) ∨ eu = 6) := Lib.hid (KU.elim (fun h => (by injection h.1 with a b; exact Or.inl ⟨b, a, h.2⟩)) (fun h => (by injection h with a b; exact Or.inr b)))
  replace KM : Hid ((em = 0 ∧ LM = FM ∧ SolP FM) ∨ em = 6) := Lib.hid (KM.elim (fun h => (by injection h.1 with a b; exact Or.inl ⟨b, a, h.2⟩)) (fun h => (by injection h with a b; exact Or.inr b)))
  replace KI : Hid ((ei = 0 ∧ LI = FI ∧ SolP FI) ∨ ei = 6) := Lib.hid (KI.elim (fun h => (by injection h.1 with a b; exact Or.inl ⟨b, a, h.2⟩)) (fun h => (by injection h with a b; exact Or.inr b)))
  obtain ⟨nm, hnm⟩ : ∃ nm : Int, max 0 (min many (l.length : Int)) = nm := ⟨_, rfl⟩
  obtain ⟨n, rfl⟩ : ∃ n : Nat, nm = (n : Int) := ⟨nm.toNat, by omega⟩
  have nl : n ≤ l.length := by omega
  have htl : (l.take n).length = n := by rw [List.length_take]; omega
  have HAT := Lib.hid (fun (h1t : o1 = true) (w' : World) (h : Below w.heap.size w w') A9 c9 (hs : SIn w' A9 c9 S) => show Calls Tryz.prog 21 #[.agg #[.int .i64 r.X0, .int .i64 r.Y0, .int .i64 r.X1, .int .i64 r.Y1], .slice A n cap, .slice A9 S.length c9] w' (BlIs true w') from by
    have h3 := (kAllows_any r A cap (l.take n) A9 c9 S w' ((hl.below h).take n) hs).mono fun e w2 k => AlIs.is (b := true) ⟨fun _ => ⟨⟨(ho1.1 h1t).1.take n, hS⟩, (ho1.1 h1t).2.take n⟩, fun _ => rfl⟩ k
    rw [htl] at h3; exact h3)
  have HLN : Hid (o1 = false → o2 = false → v = true → 0 < S.length ∧ 0 < M.length) := Lib.hid (fun h1f h2f hvt => by
    have hc := hv.1 hvt
    constructor
    · rcases Nat.eq_zero_or_pos S.length with q | q
      · rw [List.length_eq_zero_iff] at q; subst q
        have := ho1.2 ⟨hc, fun x y z hh => by obtain ⟨a, ha, _⟩ := hh; cases ha⟩
        rw [h1f] at this; cases this
      · exact q
    · rcases Nat.eq_zero_or_pos M.length with q | q
      · rw [List.length_eq_zero_iff] at q; subst q
        have := ho2.2 ⟨hc, fun x y z hh => by obtain ⟨a, ha, _⟩ := hh; cases ha⟩
        rw [h2f] at this; cases this
      · exact q)
  have HIM : Hid (o1 = true → v = true) := Lib.hid (fun h => hv.2 (ho1.1 h).1)
  generalize S.length = nS at *
  generalize M.length = nM at *
  generalize LU.length = nU at *
  generalize LM.length = nQ at *
  generalize LI.length = nI at *
  clear hn hbs hbt h1 h2 ht hS hM ho1 ho2 hv au am ai htl hl
  go_enter Tryz.func7, Tryz.ntmps7
  go_wp2_with fail
  generalize World.alloc w _ = w0 at *
  refine (HSM.out _).mono ?_
  rintro e w1 ⟨rfl, hb⟩
  replace K := Lib.hid (K.out.go hb)
  clear hb
  go_wp2_with fail
  refine (HFW.out _).mono ?_
  rintro e w2 ⟨rfl, hb⟩
  replace K := Lib.hid (K.out.go hb)
  clear hb
  go_wp2_with fail
  refine (HO1.out _ K.out.b).mono ?_
  rintro e w3 ⟨A5, c5, rfl, hs5, hb⟩
  replace K := Lib.hid (K.out.go hb)
  have H5 := Lib.hid hs5
  clear hs5
  clear hb
  go_wp2_with fail
  refine (HO2.out _ K.out.b).mono ?_
  rintro e w4 ⟨A6, c6, rfl, hs6, hb⟩
  replace K := Lib.hid (K.out.go hb)
  replace H5 := Lib.hid (H5.out.below hb)
  have H6 := Lib.hid hs6
  clear hs6
  clear hb
  have x0 := K.out.r.cell0; have x1 := K.out.r.cell1; have x2 := K.out.r.cell2; have x3 := K.out.r.cell3; have xl := K.out.r.lt
  go_wp2_with fail
  refine (HA1.out _ K.out.b _ _ H5.out).mono ?_
  rintro e w5 ⟨rfl, hb⟩
  replace K := Lib.hid (K.out.go hb)
  replace H5 := Lib.hid (H5.out.below hb)
  replace H6 := Lib.hid (H6.out.below hb)
  clear x0 x1 x2 x3 xl
  clear hb
  have x0 := K.out.r.cell0; have x1 := K.out.r.cell1; have x2 := K.out.r.cell2; have x3 := K.out.r.cell3; have xl := K.out.r.lt
  go_wp2_with fail
  refine (HA2.out _ K.out.b _ _ H6.out).mono ?_
  rintro e w6 ⟨rfl, hb⟩
  replace K := Lib.hid (K.out.go hb)
  replace H5 := Lib.hid (H5.out.below hb)
  replace H6 := Lib.hid (H6.out.below hb)
  clear x0 x1 x2 x3 xl
  clear hb
  go_wp2_with fail
  refine (HU.out _ _ _ _ _ H5.out H6.out).mono ?_
  rintro e w7 ⟨A7, c7, rfl, hs7, hb⟩
  replace K := Lib.hid (K.out.go hb)
  replace H5 := Lib.hid (H5.out.below hb)
  replace H6 := Lib.hid (H6.out.below hb)
  have H7 := Lib.hid hs7
  clear hs7
  clear hb
  go_wp2_with fail
  refine (HM.out _ _ _ _ _ H5.out H6.out).mono ?_
  rintro e w8 ⟨A8, c8, rfl, hs8, hb⟩
  replace K := Lib.hid (K.out.go hb)
  replace H5 := Lib.hid (H5.out.below hb)
  replace H6 := Lib.hid (H6.out.below hb)
  replace H7 := Lib.hid (H7.out.below hb)
  have H8 := Lib.hid hs8
  clear hs8
  clear hb
  go_wp2_with fail
  refine (HI.out _ _ _ _ _ H5.out H6.out).mono ?_
  rintro e w9 ⟨A10, c10, rfl, hs10, hb⟩
  replace K := Lib.hid (K.out.go hb)
  replace H5 := Lib.hid (H5.out.below hb)
  replace H6 := Lib.hid (H6.out.below hb)
  replace H7 := Lib.hid (H7.out.below hb)
  replace H8 := Lib.hid (H8.out.below hb)
  have H10 := Lib.hid hs10
  clear hs10
  clear hb
  obtain ⟨wz, hwz⟩ : ∃ wz, wz = w9 := ⟨_, rfl⟩
  rw [← hwz] at K H5 H6 H7 H8 H10 ⊢
  clear hwz HSM HFW HO1 HO2 HU HM HI HA1 HA2
  try simp only [] at H7 H8 H10
  go_upto_region 13 with fail
  go_cut [115] (fun s115 wx => s115 = .bool false ∧ Hid (Below wz.heap.size wz wx))
  case first =>
    clear HAT HLN HV HIM
    have HZ := Lib.hid (Below.refl wz.heap.size wz)
    cases o1 with
    | true =>
      cases o2 with
      | true =>
        rcases KU.out with ⟨rfl, hqu⟩ | rfl
        · skip
          have HQU := Lib.hid hqu
          clear hqu
          have x0 := K.out.r.cell0; have x1 := K.out.r.cell1; have x2 := K.out.r.cell2; have x3 := K.out.r.cell3; have xl := K.out.r.lt
          go_wp2_with fail
          have HAU2 := HAU.out HQU.out _ K.out.b _ _ H7.out
          simp only [Bool.and_self] at HAU2
          refine (HAU2).mono ?_
          rintro e w50 ⟨rfl, hb⟩
          replace K := Lib.hid (K.out.go hb)
          replace H7 := Lib.hid (H7.out.below hb)
          replace H8 := Lib.hid (H8.out.below hb)
          replace H10 := Lib.hid (H10.out.below hb)
          replace HZ := Lib.hid (HZ.out.trans (hb.mono HZ.out.size))
          clear hb
          clear HAU2
          clear x0 x1 x2 x3 xl
          rcases KM.out with ⟨rfl, hqm⟩ | rfl
          · skip
            have HQM := Lib.hid hqm
            clear hqm
            have x0 := K.out.r.cell0; have x1 := K.out.r.cell1; have x2 := K.out.r.cell2; have x3 := K.out.r.cell3; have xl := K.out.r.lt
            go_wp2_with fail
            refine (HAM.out HQM.out (by first | exact trivial | rfl) _ K.out.b _ _ H8.out).mono ?_
            rintro e w51 ⟨rfl, hb⟩
            replace K := Lib.hid (K.out.go hb)
            replace H7 := Lib.hid (H7.out.below hb)
            replace H8 := Lib.hid (H8.out.below hb)
            replace H10 := Lib.hid (H10.out.below hb)
            replace HZ := Lib.hid (HZ.out.trans (hb.mono HZ.out.size))
            clear hb
            clear x0 x1 x2 x3 xl
            rcases KI.out with ⟨rfl, hqi⟩ | rfl
            · skip
              have HQI := Lib.hid hqi
              clear hqi
              have x0 := K.out.r.cell0; have x1 := K.out.r.cell1; have x2 := K.out.r.cell2; have x3 := K.out.r.cell3; have xl := K.out.r.lt
              go_wp2_with fail
              refine (HAI.out HQI.out (by first | exact trivial | rfl) _ K.out.b _ _ H10.out).mono ?_
              rintro e w52 ⟨rfl, hb⟩
              replace K := Lib.hid (K.out.go hb)
              replace H7 := Lib.hid (H7.out.below hb)
              replace H8 := Lib.hid (H8.out.below hb)
              replace H10 := Lib.hid (H10.out.below hb)
              replace HZ := Lib.hid (HZ.out.trans (hb.mono HZ.out.size))
              clear hb
              clear x0 x1 x2 x3 xl
              go_wp2_with fail
              go_meet
              exact ⟨rfl, HZ.out⟩
            · skip
              go_wp2_with fail
              go_meet
              exact ⟨rfl, HZ.out⟩
          · skip
            rcases KI.out with ⟨rfl, hqi⟩ | rfl
            · skip
              have HQI := Lib.hid hqi
              clear hqi
              have x0 := K.out.r.cell0; have x1 := K.out.r.cell1; have x2 := K.out.r.cell2; have x3 := K.out.r.cell3; have xl := K.out.r.lt
              go_wp2_with fail
              refine (HAI.out HQI.out (by first | exact trivial | rfl) _ K.out.b _ _ H10.out).mono ?_
              rintro e w52 ⟨rfl, hb⟩
              replace K := Lib.hid (K.out.go hb)
              replace H7 := Lib.hid (H7.out.below hb)
              replace H8 := Lib.hid (H8.out.below hb)
              replace H10 := Lib.hid (H10.out.below hb)
              replace HZ := Lib.hid (HZ.out.trans (hb.mono HZ.out.size))
              clear hb
              clear x0 x1 x2 x3 xl
              go_wp2_with fail
              go_meet
              exact ⟨rfl, HZ.out⟩
            · skip
              go_wp2_with fail
              go_meet
              exact ⟨rfl, HZ.out⟩
        · skip
          rcases KM.out with ⟨rfl, hqm⟩ | rfl
          · skip
            have HQM := Lib.hid hqm
            clear hqm
            have x0 := K.out.r.cell0; have x1 := K.out.r.cell1; have x2 := K.out.r.cell2; have x3 := K.out.r.cell3; have xl := K.out.r.lt
            go_wp2_with fail
            refine (HAM.out HQM.out (by first | exact trivial | rfl) _ K.out.b _ _ H8.out).mono ?_
            rintro e w51 ⟨rfl, hb⟩
            replace K := Lib.hid (K.out.go hb)
            replace H7 := Lib.hid (H7.out.below hb)
            replace H8 := Lib.hid (H8.out.below hb)
            replace H10 := Lib.hid (H10.out.below hb)
            replace HZ := Lib.hid (HZ.out.trans (hb.mono HZ.out.size))
            clear hb
            clear x0 x1 x2 x3 xl
            rcases KI.out with ⟨rfl, hqi⟩ | rfl
            · skip
              have HQI := Lib.hid hqi
              clear hqi
              have x0 := K.out.r.cell0; have x1 := K.out.r.cell1; have x2 := K.out.r.cell2; have x3 := K.out.r.cell3; have xl := K.out.r.lt
              go_wp2_with fail
              refine (HAI.out HQI.out (by first | exact trivial | rfl) _ K.out.b _ _ H10.out).mono ?_
              rintro e w52 ⟨rfl, hb⟩
              replace K := Lib.hid (K.out.go hb)
              replace H7 := Lib.hid (H7.out.below hb)
              replace H8 := Lib.hid (H8.out.below hb)
              replace H10 := Lib.hid (H10.out.below hb)
              replace HZ := Lib.hid (HZ.out.trans (hb.mono HZ.out.size))
              clear hb
              clear x0 x1 x2 x3 xl
              go_wp2_with fail
              go_meet
              exact ⟨rfl, HZ.out⟩
            · skip
              go_wp2_with fail
              go_meet
              exact ⟨rfl, HZ.out⟩
          · skip
            rcases KI.out with ⟨rfl, hqi⟩ | rfl
            · skip
              have HQI := Lib.hid hqi
              clear hqi
              have x0 := K.out.r.cell0; have x1 := K.out.r.cell1; have x2 := K.out.r.cell2; have x3 := K.out.r.cell3; have xl := K.out.r.lt
              go_wp2_with fail
              refine (HAI.out HQI.out (by first | exact trivial | rfl) _ K.out.b _ _ H10.out).mono ?_
              rintro e w52 ⟨rfl, hb⟩
              replace K := Lib.hid (K.out.go hb)
              replace H7 := Lib.hid (H7.out.below hb)
              replace H8 := Lib.hid (H8.out.below hb)
              replace H10 := Lib.hid (H10.out.below hb)
              replace HZ := Lib.hid (HZ.out.trans (hb.mono HZ.out.size))
              clear hb
              clear x0 x1 x2 x3 xl
              go_wp2_with fail
              go_meet
              exact ⟨rfl, HZ.out⟩
            · skip
              go_wp2_with fail
              go_meet
              exact ⟨rfl, HZ.out⟩
      | false =>
        rcases KU.out with ⟨rfl, hqu⟩ | rfl
        · skip
          have HQU := Lib.hid hqu
          clear hqu
          have x0 := K.out.r.cell0; have x1 := K.out.r.cell1; have x2 := K.out.r.cell2; have x3 := K.out.r.cell3; have xl := K.out.r.lt
          go_wp2_with fail
          have HAU2 := HAU.out HQU.out _ K.out.b _ _ H7.out
          simp only [Bool.and_false] at HAU2
          refine (HAU2).mono ?_
          rintro e w50 ⟨rfl, hb⟩
          replace K := Lib.hid (K.out.go hb)
          replace H7 := Lib.hid (H7.out.below hb)
          replace H8 := Lib.hid (H8.out.below hb)
          replace H10 := Lib.hid (H10.out.below hb)
          replace HZ := Lib.hid (HZ.out.trans (hb.mono HZ.out.size))
          clear hb
          clear HAU2
          clear x0 x1 x2 x3 xl
          rcases KM.out with ⟨rfl, hqm⟩ | rfl
          · skip
            have HQM := Lib.hid hqm
            clear hqm
            have x0 := K.out.r.cell0; have x1 := K.out.r.cell1; have x2 := K.out.r.cell2; have x3 := K.out.r.cell3; have xl := K.out.r.lt
            go_wp2_with fail
            refine (HAM.out HQM.out (by first | exact trivial | rfl) _ K.out.b _ _ H8.out).mono ?_
            rintro e w51 ⟨rfl, hb⟩
            replace K := Lib.hid (K.out.go hb)
            replace H7 := Lib.hid (H7.out.below hb)
            replace H8 := Lib.hid (H8.out.below hb)
            replace H10 := Lib.hid (H10.out.below hb)
            replace HZ := Lib.hid (HZ.out.trans (hb.mono HZ.out.size))
            clear hb
            clear x0 x1 x2 x3 xl
            rcases KI.out with ⟨rfl, hqi⟩ | rfl
            · skip
              have HQI := Lib.hid hqi
              clear hqi
              have x0 := K.out.r.cell0; have x1 := K.out.r.cell1; have x2 := K.out.r.cell2; have x3 := K.out.r.cell3; have xl := K.out.r.lt
              go_wp2_with fail
              refine (HAI.out HQI.out (by first | exact trivial | rfl) _ K.out.b _ _ H10.out).mono ?_
              rintro e w52 ⟨rfl, hb⟩
              replace K := Lib.hid (K.out.go hb)
              replace H7 := Lib.hid (H7.out.below hb)
              replace H8 := Lib.hid (H8.out.below hb)
              replace H10 := Lib.hid (H10.out.below hb)
              replace HZ := Lib.hid (HZ.out.trans (hb.mono HZ.out.size))
              clear hb
              clear x0 x1 x2 x3 xl
              go_wp2_with fail
              go_meet
              exact ⟨rfl, HZ.out⟩
            · skip
              go_wp2_with fail
              go_meet
              exact ⟨rfl, HZ.out⟩
          · skip
            rcases KI.out with ⟨rfl, hqi⟩ | rfl
            · skip
              have HQI := Lib.hid hqi
              clear hqi
              have x0 := K.out.r.cell0; have x1 := K.out.r.cell1; have x2 := K.out.r.cell2; have x3 := K.out.r.cell3; have xl := K.out.r.lt
              go_wp2_with fail
              refine (HAI.out HQI.out (by first | exact trivial | rfl) _ K.out.b _ _ H10.out).mono ?_
              rintro e w52 ⟨rfl, hb⟩
              replace K := Lib.hid (K.out.go hb)
              replace H7 := Lib.hid (H7.out.below hb)
              replace H8 := Lib.hid (H8.out.below hb)
              replace H10 := Lib.hid (H10.out.below hb)
              replace HZ := Lib.hid (HZ.out.trans (hb.mono HZ.out.size))
              clear hb
              clear x0 x1 x2 x3 xl
              go_wp2_with fail
              go_meet
              exact ⟨rfl, HZ.out⟩
            · skip
              go_wp2_with fail
              go_meet
              exact ⟨rfl, HZ.out⟩
        · skip
          rcases KM.out with ⟨rfl, hqm⟩ | rfl
          · skip
            have HQM := Lib.hid hqm
            clear hqm
            have x0 := K.out.r.cell0; have x1 := K.out.r.cell1; have x2 := K.out.r.cell2; have x3 := K.out.r.cell3; have xl := K.out.r.lt
            go_wp2_with fail
            refine (HAM.out HQM.out (by first | exact trivial | rfl) _ K.out.b _ _ H8.out).mono ?_
            rintro e w51 ⟨rfl, hb⟩
            replace K := Lib.hid (K.out.go hb)
            replace H7 := Lib.hid (H7.out.below hb)
            replace H8 := Lib.hid (H8.out.below hb)
            replace H10 := Lib.hid (H10.out.below hb)
            replace HZ := Lib.hid (HZ.out.trans (hb.mono HZ.out.size))
            clear hb
            clear x0 x1 x2 x3 xl
            rcases KI.out with ⟨rfl, hqi⟩ | rfl
            · skip
              have HQI := Lib.hid hqi
              clear hqi
              have x0 := K.out.r.cell0; have x1 := K.out.r.cell1; have x2 := K.out.r.cell2; have x3 := K.out.r.cell3; have xl := K.out.r.lt
              go_wp2_with fail
              refine (HAI.out HQI.out (by first | exact trivial | rfl) _ K.out.b _ _ H10.out).mono ?_
              rintro e w52 ⟨rfl, hb⟩
              replace K := Lib.hid (K.out.go hb)
              replace H7 := Lib.hid (H7.out.below hb)
              replace H8 := Lib.hid (H8.out.below hb)
              replace H10 := Lib.hid (H10.out.below hb)
              replace HZ := Lib.hid (HZ.out.trans (hb.mono HZ.out.size))
              clear hb
              clear x0 x1 x2 x3 xl
              go_wp2_with fail
              go_meet
              exact ⟨rfl, HZ.out⟩
            · skip
              go_wp2_with fail
              go_meet
              exact ⟨rfl, HZ.out⟩
          · skip
            rcases KI.out with ⟨rfl, hqi⟩ | rfl
            · skip
              have HQI := Lib.hid hqi
              clear hqi
              have x0 := K.out.r.cell0; have x1 := K.out.r.cell1; have x2 := K.out.r.cell2; have x3 := K.out.r.cell3; have xl := K.out.r.lt
              go_wp2_with fail
              refine (HAI.out HQI.out (by first | exact trivial | rfl) _ K.out.b _ _ H10.out).mono ?_
              rintro e w52 ⟨rfl, hb⟩
              replace K := Lib.hid (K.out.go hb)
              replace H7 := Lib.hid (H7.out.below hb)
              replace H8 := Lib.hid (H8.out.below hb)
              replace H10 := Lib.hid (H10.out.below hb)
              replace HZ := Lib.hid (HZ.out.trans (hb.mono HZ.out.size))
              clear hb
              clear x0 x1 x2 x3 xl
              go_wp2_with fail
              go_meet
              exact ⟨rfl, HZ.out⟩
            · skip
              go_wp2_with fail
              go_meet
              exact ⟨rfl, HZ.out⟩
    | false =>
      cases o2 with
      | true =>
        rcases KU.out with ⟨rfl, hqu⟩ | rfl
        · skip
          have HQU := Lib.hid hqu
          clear hqu
          have x0 := K.out.r.cell0; have x1 := K.out.r.cell1; have x2 := K.out.r.cell2; have x3 := K.out.r.cell3; have xl := K.out.r.lt
          go_wp2_with fail
          have HAU2 := HAU.out HQU.out _ K.out.b _ _ H7.out
          simp only [Bool.false_and] at HAU2
          refine (HAU2).mono ?_
          rintro e w50 ⟨rfl, hb⟩
          replace K := Lib.hid (K.out.go hb)
          replace H7 := Lib.hid (H7.out.below hb)
          replace H8 := Lib.hid (H8.out.below hb)
          replace H10 := Lib.hid (H10.out.below hb)
          replace HZ := Lib.hid (HZ.out.trans (hb.mono HZ.out.size))
          clear hb
          clear HAU2
          clear x0 x1 x2 x3 xl
          go_wp2_with fail
          go_meet
          exact ⟨rfl, HZ.out⟩
        · skip
          go_wp2_with fail
          go_meet
          exact ⟨rfl, HZ.out⟩
      | false =>
        rcases KU.out with ⟨rfl, hqu⟩ | rfl
        · skip
          have HQU := Lib.hid hqu
          clear hqu
          have x0 := K.out.r.cell0; have x1 := K.out.r.cell1; have x2 := K.out.r.cell2; have x3 := K.out.r.cell3; have xl := K.out.r.lt
          go_wp2_with fail
          have HAU2 := HAU.out HQU.out _ K.out.b _ _ H7.out
          simp only [Bool.and_self] at HAU2
          refine (HAU2).mono ?_
          rintro e w50 ⟨rfl, hb⟩
          replace K := Lib.hid (K.out.go hb)
          replace H7 := Lib.hid (H7.out.below hb)
          replace H8 := Lib.hid (H8.out.below hb)
          replace H10 := Lib.hid (H10.out.below hb)
          replace HZ := Lib.hid (HZ.out.trans (hb.mono HZ.out.size))
          clear hb
          clear HAU2
          clear x0 x1 x2 x3 xl
          go_wp2_with fail
          go_meet
          exact ⟨rfl, HZ.out⟩
        · skip
          go_wp2_with fail
          go_meet
          exact ⟨rfl, HZ.out⟩
  case rest =>
    obtain ⟨rfl, hbz⟩ := hcut
    obtain ⟨wq, hwq⟩ : ∃ wq, wq = wc := ⟨_, rfl⟩
    rw [← hwq] at hbz ⊢
    clear hwq
    replace K := Lib.hid (K.out.go hbz.out)
    replace H5 := Lib.hid (H5.out.below hbz.out)
    clear HAU HAM HAI KU KM KI H6 H7 H8 H10 hbz
    have E1 : Hid (Rx5 w.heap.size r wq wq) := Lib.hid ⟨K.out.r.cell0, K.out.r.cell1, K.out.r.cell2, K.out.r.cell3, K.out.r.lt, Lib.hid (Below.refl _ _)⟩
    have s0 : (0 : Int) ≤ (n : Int) := by omega
    have s1 : (n : Int) ≤ (cap : Int) := by have := K.out.p.room; omega
    have hcap2 := K.out.p.room2
    have hlen9 := K.out.p.len
    replace HV := Lib.hid (fun w' (h : Below wq.heap.size wq w') => HV.out w' (K.out.b.trans (h.mono K.out.b.size)))
    replace HAT := Lib.hid (fun h1t w' (h : Below wq.heap.size wq w') => HAT.out h1t w' (K.out.b.trans (h.mono K.out.b.size)) _ _ (H5.out.below h))
    go_wp2_with fail
    cases o1 with
    | true =>
      obtain rfl := HIM.out rfl
      replace HAT := Lib.hid (HAT.out rfl)
      refine wp_region_held_drew (S := fun w' => w'.cell? ⟨w.heap.size, 0, none⟩ = some (.int .i64 r.X0) ∧ w'.cell? ⟨w.heap.size, 1, none⟩ = some (.int .i64 r.Y0) ∧ w'.cell? ⟨w.heap.size, 2, none⟩ = some (.int .i64 r.X1) ∧ w'.cell? ⟨w.heap.size, 3, none⟩ = some (.int .i64 r.Y1) ∧ w.heap.size < w'.heap.size ∧ Hid (Below wq.heap.size wq w')) (by kernel_rfl) ?_ (fun hHeld => ?_)
      · exact Rx5.drewN E1.out 1
      refine wpAnyH_take (i := 0) (oi := { dst := some 116, op := Go.Op.move (Go.Operand.tmp 11), type := 4, pos := "law.go:184", after := #[], guard := none }) (v := ?_) rfl (by kernel_rfl) (by kernel_rfl) (by kernel_rfl) (fun _ _ _ h => h) (Or.inl ⟨by rfl, ?_⟩) (by assumption) ?_
      rotate_left
      · (intro w hSw; (try dsimp only at hSw); go_simp); try with_reducible rfl
      try simp only [Act.put, List.setIfInBounds_toArray, List.set_cons_zero, List.set_cons_succ]
      refine wpAnyH_take (i := 1) (oi := { dst := some 117, op := Go.Op.move (Go.Operand.tmp 116), type := 4, pos := "law.go:184", after := #[{ on := 0, ground := Go.Ground.data }], guard := none }) (v := ?_) rfl (by kernel_rfl) (by kernel_rfl) (by kernel_rfl) (fun _ _ _ h => h) (Or.inl ⟨by rfl, ?_⟩) (by assumption) ?_
      rotate_left
      · (intro w hSw; (try dsimp only at hSw); go_simp); try with_reducible rfl
      try simp only [Act.put, List.setIfInBounds_toArray, List.set_cons_zero, List.set_cons_succ]
      refine wpAnyH_take (i := 2) (oi := { dst := some 118, op := Go.Op.move (Go.Operand.tmp 16), type := 4, pos := "law.go:184", after := #[{ on := 1, ground := Go.Ground.guard }], guard := some (1, true) }) (v := ?_) rfl (by kernel_rfl) (by kernel_rfl) (by kernel_rfl) (fun _ _ _ h => h) (Or.inl ⟨by rfl, ?_⟩) (by assumption) ?_
      rotate_left
      · (intro w hSw; (try dsimp only at hSw); go_simp); try with_reducible rfl
      try simp only [Act.put, List.setIfInBounds_toArray, List.set_cons_zero, List.set_cons_succ]
      refine wpAnyH_take (i := 3) (oi := { dst := some 119, op := Go.Op.unOp Go.UnOp.not 4 (Go.Operand.tmp 118), type := 4, pos := "law.go:184", after := #[{ on := 2, ground := Go.Ground.data }, { on := 1, ground := Go.Ground.guard }], guard := some (1, true) }) (v := ?_) rfl (by kernel_rfl) (by kernel_rfl) (by kernel_rfl) (fun _ _ _ h => h) (Or.inl ⟨by rfl, ?_⟩) (by assumption) ?_
      rotate_left
      · (intro w hSw; (try dsimp only at hSw); go_simp); try with_reducible rfl
      try simp only [Act.put, List.setIfInBounds_toArray, List.set_cons_zero, List.set_cons_succ]
      refine wpAnyH_take (i := 4) (oi := { dst := some 120, op := Go.Op.move (Go.Operand.tmp 119), type := 4, pos := "law.go:184", after := #[{ on := 3, ground := Go.Ground.data }, { on := 1, ground := Go.Ground.chain }, { on := 1, ground := Go.Ground.guard }], guard := some (1, true) }) (v := ?_) rfl (by kernel_rfl) (by kernel_rfl) (by kernel_rfl) (fun _ _ _ h => h) (Or.inl ⟨by rfl, ?_⟩) (by assumption) ?_
      rotate_left
      · (intro w hSw; (try dsimp only at hSw); go_simp); try with_reducible rfl
      try simp only [Act.put, List.setIfInBounds_toArray, List.set_cons_zero, List.set_cons_succ]
      refine wpAnyH_take (i := 5) (oi := { dst := some 121, op := Go.Op.load 33 (Go.Operand.tmp 5), type := 33, pos := "law.go:184", after := #[{ on := 4, ground := Go.Ground.guard }], guard := some (4, false) }) (v := ?_) rfl (by kernel_rfl) (by kernel_rfl) (by kernel_rfl) (fun _ _ _ h => h) (Or.inl ⟨by rfl, ?_⟩) (by assumption) ?_
      rotate_left
      · (intro w hSw; (try dsimp only at hSw); go_simp); try with_reducible rfl
      try simp only [Act.put, List.setIfInBounds_toArray, List.set_cons_zero, List.set_cons_succ]
      refine wpAnyH_take (i := 6) (oi := { dst := some 122, op := Go.Op.move (Go.Operand.tmp 1), type := 34, pos := "law.go:184", after := #[{ on := 4, ground := Go.Ground.guard }], guard := some (4, false) }) (v := ?_) rfl (by kernel_rfl) (by kernel_rfl) (by kernel_rfl) (fun _ _ _ h => h) (Or.inl ⟨by rfl, ?_⟩) (by assumption) ?_
      rotate_left
      · (intro w hSw; (try dsimp only at hSw); go_simp); try with_reducible rfl
      try simp only [Act.put, List.setIfInBounds_toArray, List.set_cons_zero, List.set_cons_succ]
      refine wpAnyH_take (i := 7) (oi := { dst := some 123, op := Go.Op.move (Go.Operand.tmp 4), type := 3, pos := "law.go:184", after := #[{ on := 4, ground := Go.Ground.guard }], guard := some (4, false) }) (v := ?_) rfl (by kernel_rfl) (by kernel_rfl) (by kernel_rfl) (fun _ _ _ h => h) (Or.inl ⟨by rfl, ?_⟩) (by assumption) ?_
      rotate_left
      · (intro w hSw; (try dsimp only at hSw); go_simp); try with_reducible rfl
      try simp only [Act.put, List.setIfInBounds_toArray, List.set_cons_zero, List.set_cons_succ]
      refine wpAnyH_take (i := 8) (oi := { dst := some 124, op := Go.Op.move (Go.Operand.tmp 1), type := 34, pos := "law.go:184", after := #[{ on := 4, ground := Go.Ground.guard }], guard := some (4, false) }) (v := ?_) rfl (by kernel_rfl) (by kernel_rfl) (by kernel_rfl) (fun _ _ _ h => h) (Or.inl ⟨by rfl, ?_⟩) (by assumption) ?_
      rotate_left
      · (intro w hSw; (try dsimp only at hSw); go_simp); try with_reducible rfl
      try simp only [Act.put, List.setIfInBounds_toArray, List.set_cons_zero, List.set_cons_succ]
      refine wpAnyH_take (i := 9) (oi := { dst := some 125, op := Go.Op.call { callee := Go.Callee.builtin Go.Builtin.len, args := #[Go.Operand.tmp 124], argTypes := #[34] }, type := 3, pos := "law.go:184", after := #[{ on := 8, ground := Go.Ground.data }, { on := 4, ground := Go.Ground.guard }], guard := some (4, false) }) (v := ?_) rfl (by kernel_rfl) (by kernel_rfl) (by kernel_rfl) (fun _ _ _ h => h) (Or.inl ⟨by rfl, ?_⟩) (by assumption) ?_
      rotate_left
      · (intro w hSw; (try dsimp only at hSw); go_simp); try with_reducible rfl
      try simp only [Act.put, List.setIfInBounds_toArray, List.set_cons_zero, List.set_cons_succ]
      refine wpAnyH_take (i := 10) (oi := { dst := some 126, op := Go.Op.call { callee := Go.Callee.builtin Go.Builtin.min, args := #[Go.Operand.tmp 123, Go.Operand.tmp 125], argTypes := #[3, 3] }, type := 3, pos := "law.go:184", after := #[{ on := 7, ground := Go.Ground.data }, { on := 9, ground := Go.Ground.data }, { on := 4, ground := Go.Ground.guard }], guard := some (4, false) }) (v := ?_) rfl (by kernel_rfl) (by kernel_rfl) (by kernel_rfl) (fun _ _ _ h => h) (Or.inl ⟨by rfl, ?_⟩) (by assumption) ?_
      rotate_left
      · (intro w hSw; (try dsimp only at hSw); go_simp); try with_reducible rfl
      try simp only [Act.put, List.setIfInBounds_toArray, List.set_cons_zero, List.set_cons_succ]
      refine wpAnyH_take (i := 11) (oi := { dst := some 127, op := Go.Op.call { callee := Go.Callee.builtin Go.Builtin.max, args := #[Go.Operand.const (Go.Value.int Go.IntKind.i64 0), Go.Operand.tmp 126], argTypes := #[3, 3] }, type := 3, pos := "law.go:184", after := #[{ on := 10, ground := Go.Ground.data }, { on := 4, ground := Go.Ground.guard }], guard := some (4, false) }) (v := ?_) rfl (by kernel_rfl) (by kernel_rfl) (by kernel_rfl) (fun _ _ _ h => h) (Or.inl ⟨by rfl, ?_⟩) (by assumption) ?_
      rotate_left
      · (intro w hSw; (try dsimp only at hSw); go_simp); try with_reducible rfl
      try simp only [Act.put, List.setIfInBounds_toArray, List.set_cons_zero, List.set_cons_succ]
      refine wpAnyH_take (i := 12) (oi := { dst := some 128, op := Go.Op.slice 34 (Go.Operand.tmp 122) none (some (Go.Operand.tmp 127)) none, type := 34, pos := "law.go:184", after := #[{ on := 6, ground := Go.Ground.data }, { on := 11, ground := Go.Ground.data }, { on := 4, ground := Go.Ground.guard }], guard := some (4, false) }) (v := ?_) rfl (by kernel_rfl) (by kernel_rfl) (by kernel_rfl) (fun _ _ _ h => h) (Or.inl ⟨by rfl, ?_⟩) (by assumption) ?_
      rotate_left
      · (intro w hSw; (try dsimp only at hSw); go_simp); try with_reducible rfl
      try simp only [Act.put, List.setIfInBounds_toArray, List.set_cons_zero, List.set_cons_succ]
      refine wpAnyH_take (i := 13) (oi := { dst := some 129, op := Go.Op.move (Go.Operand.tmp 12), type := 22, pos := "law.go:184", after := #[{ on := 4, ground := Go.Ground.guard }], guard := some (4, false) }) (v := ?_) rfl (by kernel_rfl) (by kernel_rfl) (by kernel_rfl) (fun _ _ _ h => h) (Or.inl ⟨by rfl, ?_⟩) (by assumption) ?_
      rotate_left
      · (intro w hSw; (try dsimp only at hSw); go_simp); try with_reducible rfl
      try simp only [Act.put, List.setIfInBounds_toArray, List.set_cons_zero, List.set_cons_succ]
      have hbq9 := Rx5.bel (gb := w.heap.size) (r := r) (W := wq) hHeld
      refine wpAnyH_ready (rs := [14]) (by kernel_rfl) (by simp) ?_
      refine AllReadyH.cons (o := { dst := some 130, op := Go.Op.call { callee := Go.Callee.value (Go.Operand.func 21), args := #[Go.Operand.tmp 121, Go.Operand.tmp 128, Go.Operand.tmp 129], argTypes := #[33, 34, 22] }, type := 4, pos := "law.go:184", after := #[{ on := 5, ground := Go.Ground.data }, { on := 12, ground := Go.Ground.data }, { on := 13, ground := Go.Ground.data }, { on := 4, ground := Go.Ground.chain }, { on := 4, ground := Go.Ground.guard }], guard := some (4, false) }) rfl (fun K' hK => ?_) AllReadyH.nil
      go_simp
      go_at_call 21
      with_reducible refine Calls.mono (HAT.out _ hbq9) ?_
      rintro e w914 ⟨rfl, hb⟩
      try go_wp2_with fail
      refine hK.out _ _ (Rx5.go (gb := w.heap.size) (r := r) (W := wq) (by assumption) hb) (fun hHeld2 => ?_)
      clear hK K' hHeld hb hbq9
      have hHeld := hHeld2; clear hHeld2
      try simp only [Act.put, List.setIfInBounds_toArray, List.set_cons_zero, List.set_cons_succ]
      refine wpAnyH_take (i := 15) (oi := { dst := some 131, op := Go.Op.pick (Go.Operand.tmp 120) (Go.Operand.const (Go.Value.bool true)) (Go.Operand.tmp 130), type := 4, pos := "law.go:184", after := #[{ on := 4, ground := Go.Ground.data }, { on := 14, ground := Go.Ground.data }, { on := 1, ground := Go.Ground.guard }], guard := some (1, true) }) (v := ?_) rfl (by kernel_rfl) (by kernel_rfl) (by kernel_rfl) (fun _ _ _ h => h) (Or.inl ⟨by rfl, ?_⟩) (by assumption) ?_
      rotate_left
      · (intro w hSw; (try dsimp only at hSw); go_simp); try with_reducible rfl
      try simp only [Act.put, List.setIfInBounds_toArray, List.set_cons_zero, List.set_cons_succ]
      refine wpAnyH_take (i := 16) (oi := { dst := some 132, op := Go.Op.pick (Go.Operand.tmp 117) (Go.Operand.tmp 131) (Go.Operand.const (Go.Value.bool false)), type := 4, pos := "law.go:184", after := #[{ on := 1, ground := Go.Ground.data }, { on := 15, ground := Go.Ground.data }], guard := none }) (v := ?_) rfl (by kernel_rfl) (by kernel_rfl) (by kernel_rfl) (fun _ _ _ h => h) (Or.inl ⟨by rfl, ?_⟩) (by assumption) ?_
      rotate_left
      · (intro w hSw; (try dsimp only at hSw); go_simp); try with_reducible rfl
      try simp only [Act.put, List.setIfInBounds_toArray, List.set_cons_zero, List.set_cons_succ]
      refine wpAnyH_take (i := 17) (oi := { dst := some 133, op := Go.Op.move (Go.Operand.tmp 132), type := 4, pos := "law.go:184", after := #[{ on := 16, ground := Go.Ground.data }, { on := 14, ground := Go.Ground.chain }], guard := none }) (v := ?_) rfl (by kernel_rfl) (by kernel_rfl) (by kernel_rfl) (fun _ _ _ h => h) (Or.inl ⟨by rfl, ?_⟩) (by assumption) ?_
      rotate_left
      · (intro w hSw; (try dsimp only at hSw); go_simp); try with_reducible rfl
      try simp only [Act.put, List.setIfInBounds_toArray, List.set_cons_zero, List.set_cons_succ]
      refine wpAnyH_take (i := 18) (oi := { dst := some 134, op := Go.Op.move (Go.Operand.tmp 16), type := 4, pos := "law.go:184", after := #[{ on := 17, ground := Go.Ground.guard }], guard := some (17, true) }) (v := ?_) rfl (by kernel_rfl) (by kernel_rfl) (by kernel_rfl) (fun _ _ _ h => h) (Or.inl ⟨by rfl, ?_⟩) (by assumption) ?_
      rotate_left
      · (intro w hSw; (try dsimp only at hSw); go_simp); try with_reducible rfl
      try simp only [Act.put, List.setIfInBounds_toArray, List.set_cons_zero, List.set_cons_succ]
      refine wpAnyH_take (i := 19) (oi := { dst := some 135, op := Go.Op.move (Go.Operand.tmp 134), type := 4, pos := "law.go:184", after := #[{ on := 18, ground := Go.Ground.data }, { on := 17, ground := Go.Ground.chain }, { on := 17, ground := Go.Ground.guard }], guard := some (17, true) }) (v := ?_) rfl (by kernel_rfl) (by kernel_rfl) (by kernel_rfl) (fun _ _ _ h => h) (Or.inl ⟨by rfl, ?_⟩) (by assumption) ?_
      rotate_left
      · (intro w hSw; (try dsimp only at hSw); go_simp); try with_reducible rfl
      try simp only [Act.put, List.setIfInBounds_toArray, List.set_cons_zero, List.set_cons_succ]
      refine wpAnyH_take (i := 20) (oi := { dst := some 136, op := Go.Op.move (Go.Operand.tmp 17), type := 4, pos := "law.go:184", after := #[{ on := 19, ground := Go.Ground.guard }], guard := some (19, false) }) (v := undef) rfl (by kernel_rfl) (by kernel_rfl) (by kernel_rfl) (fun _ _ _ h => h) (Or.inr ⟨by rfl, by rfl⟩) (by assumption) ?_
      try simp only [Act.put, List.setIfInBounds_toArray, List.set_cons_zero, List.set_cons_succ]
      refine wpAnyH_take (i := 21) (oi := { dst := some 137, op := Go.Op.pick (Go.Operand.tmp 135) (Go.Operand.const (Go.Value.bool true)) (Go.Operand.tmp 136), type := 4, pos := "law.go:184", after := #[{ on := 19, ground := Go.Ground.data }, { on := 20, ground := Go.Ground.data }, { on := 17, ground := Go.Ground.guard }], guard := some (17, true) }) (v := ?_) rfl (by kernel_rfl) (by kernel_rfl) (by kernel_rfl) (fun _ _ _ h => h) (Or.inl ⟨by rfl, ?_⟩) (by assumption) ?_
      rotate_left
      · (intro w hSw; (try dsimp only at hSw); go_simp); try with_reducible rfl
      try simp only [Act.put, List.setIfInBounds_toArray, List.set_cons_zero, List.set_cons_succ]
      refine wpAnyH_take (i := 22) (oi := { dst := some 138, op := Go.Op.move (Go.Operand.tmp 137), type := 4, pos := "law.go:184", after := #[{ on := 21, ground := Go.Ground.data }, { on := 19, ground := Go.Ground.chain }, { on := 17, ground := Go.Ground.guard }], guard := some (17, true) }) (v := ?_) rfl (by kernel_rfl) (by kernel_rfl) (by kernel_rfl) (fun _ _ _ h => h) (Or.inl ⟨by rfl, ?_⟩) (by assumption) ?_
      rotate_left
      · (intro w hSw; (try dsimp only at hSw); go_simp); try with_reducible rfl
      try simp only [Act.put, List.setIfInBounds_toArray, List.set_cons_zero, List.set_cons_succ]
      refine wpAnyH_take (i := 23) (oi := { dst := some 139, op := Go.Op.load 33 (Go.Operand.tmp 5), type := 33, pos := "law.go:184", after := #[{ on := 22, ground := Go.Ground.guard }], guard := some (22, false) }) (v := undef) rfl (by kernel_rfl) (by kernel_rfl) (by kernel_rfl) (fun _ _ _ h => h) (Or.inr ⟨by rfl, by rfl⟩) (by assumption) ?_
      try simp only [Act.put, List.setIfInBounds_toArray, List.set_cons_zero, List.set_cons_succ]
      refine wpAnyH_take (i := 24) (oi := { dst := some 140, op := Go.Op.move (Go.Operand.tmp 1), type := 34, pos := "law.go:184", after := #[{ on := 22, ground := Go.Ground.guard }], guard := some (22, false) }) (v := undef) rfl (by kernel_rfl) (by kernel_rfl) (by kernel_rfl) (fun _ _ _ h => h) (Or.inr ⟨by rfl, by rfl⟩) (by assumption) ?_
      try simp only [Act.put, List.setIfInBounds_toArray, List.set_cons_zero, List.set_cons_succ]
      refine wpAnyH_take (i := 25) (oi := { dst := some 141, op := Go.Op.call { callee := Go.Callee.value (Go.Operand.func 29), args := #[Go.Operand.tmp 139, Go.Operand.tmp 140], argTypes := #[33, 34] }, type := 4, pos := "law.go:184", after := #[{ on := 23, ground := Go.Ground.data }, { on := 24, ground := Go.Ground.data }, { on := 22, ground := Go.Ground.chain }, { on := 22, ground := Go.Ground.guard }], guard := some (22, false) }) (v := undef) rfl (by kernel_rfl) (by kernel_rfl) (by kernel_rfl) (fun _ _ _ h => h) (Or.inr ⟨by rfl, by rfl⟩) (by assumption) ?_
      try simp only [Act.put, List.setIfInBounds_toArray, List.set_cons_zero, List.set_cons_succ]
      refine wpAnyH_take (i := 26) (oi := { dst := some 142, op := Go.Op.unOp Go.UnOp.not 4 (Go.Operand.tmp 141), type := 4, pos := "law.go:184", after := #[{ on := 25, ground := Go.Ground.data }, { on := 22, ground := Go.Ground.guard }], guard := some (22, false) }) (v := undef) rfl (by kernel_rfl) (by kernel_rfl) (by kernel_rfl) (fun _ _ _ h => h) (Or.inr ⟨by rfl, by rfl⟩) (by assumption) ?_
      try simp only [Act.put, List.setIfInBounds_toArray, List.set_cons_zero, List.set_cons_succ]
      refine wpAnyH_take (i := 27) (oi := { dst := some 143, op := Go.Op.pick (Go.Operand.tmp 138) (Go.Operand.const (Go.Value.bool true)) (Go.Operand.tmp 142), type := 4, pos := "law.go:184", after := #[{ on := 22, ground := Go.Ground.data }, { on := 26, ground := Go.Ground.data }, { on := 17, ground := Go.Ground.guard }], guard := some (17, true) }) (v := ?_) rfl (by kernel_rfl) (by kernel_rfl) (by kernel_rfl) (fun _ _ _ h => h) (Or.inl ⟨by rfl, ?_⟩) (by assumption) ?_
      rotate_left
      · (intro w hSw; (try dsimp only at hSw); go_simp); try with_reducible rfl
      try simp only [Act.put, List.setIfInBounds_toArray, List.set_cons_zero, List.set_cons_succ]
      refine wpAnyH_take (i := 28) (oi := { dst := some 144, op := Go.Op.move (Go.Operand.tmp 143), type := 4, pos := "law.go:184", after := #[{ on := 27, ground := Go.Ground.data }, { on := 25, ground := Go.Ground.chain }, { on := 17, ground := Go.Ground.guard }], guard := some (17, true) }) (v := ?_) rfl (by kernel_rfl) (by kernel_rfl) (by kernel_rfl) (fun _ _ _ h => h) (Or.inl ⟨by rfl, ?_⟩) (by assumption) ?_
      rotate_left
      · (intro w hSw; (try dsimp only at hSw); go_simp); try with_reducible rfl
      try simp only [Act.put, List.setIfInBounds_toArray, List.set_cons_zero, List.set_cons_succ]
      refine wpAnyH_take (i := 29) (oi := { dst := some 145, op := Go.Op.move (Go.Operand.tmp 12), type := 22, pos := "law.go:184", after := #[{ on := 28, ground := Go.Ground.guard }], guard := some (28, false) }) (v := undef) rfl (by kernel_rfl) (by kernel_rfl) (by kernel_rfl) (fun _ _ _ h => h) (Or.inr ⟨by rfl, by rfl⟩) (by assumption) ?_
      try simp only [Act.put, List.setIfInBounds_toArray, List.set_cons_zero, List.set_cons_succ]
      refine wpAnyH_take (i := 30) (oi := { dst := some 146, op := Go.Op.call { callee := Go.Callee.builtin Go.Builtin.len, args := #[Go.Operand.tmp 145], argTypes := #[22] }, type := 3, pos := "law.go:184", after := #[{ on := 29, ground := Go.Ground.data }, { on := 28, ground := Go.Ground.guard }], guard := some (28, false) }) (v := undef) rfl (by kernel_rfl) (by kernel_rfl) (by kernel_rfl) (fun _ _ _ h => h) (Or.inr ⟨by rfl, by rfl⟩) (by assumption) ?_
      try simp only [Act.put, List.setIfInBounds_toArray, List.set_cons_zero, List.set_cons_succ]
      refine wpAnyH_take (i := 31) (oi := { dst := some 147, op := Go.Op.binOp Go.BinOp.gtr 3 (Go.Operand.tmp 146) (Go.Operand.const (Go.Value.int Go.IntKind.i64 0)) 3, type := 4, pos := "law.go:184", after := #[{ on := 30, ground := Go.Ground.data }, { on := 28, ground := Go.Ground.guard }], guard := some (28, false) }) (v := undef) rfl (by kernel_rfl) (by kernel_rfl) (by kernel_rfl) (fun _ _ _ h => h) (Or.inr ⟨by rfl, by rfl⟩) (by assumption) ?_
      try simp only [Act.put, List.setIfInBounds_toArray, List.set_cons_zero, List.set_cons_succ]
      refine wpAnyH_take (i := 32) (oi := { dst := some 148, op := Go.Op.move (Go.Operand.tmp 147), type := 4, pos := "law.go:184", after := #[{ on := 31, ground := Go.Ground.data }, { on := 28, ground := Go.Ground.chain }, { on := 28, ground := Go.Ground.guard }], guard := some (28, false) }) (v := undef) rfl (by kernel_rfl) (by kernel_rfl) (by kernel_rfl) (fun _ _ _ h => h) (Or.inr ⟨by rfl, by rfl⟩) (by assumption) ?_
      try simp only [Act.put, List.setIfInBounds_toArray, List.set_cons_zero, List.set_cons_succ]
      refine wpAnyH_take (i := 33) (oi := { dst := some 149, op := Go.Op.move (Go.Operand.tmp 14), type := 22, pos := "law.go:184", after := #[{ on := 32, ground := Go.Ground.guard }], guard := some (32, true) }) (v := undef) rfl (by kernel_rfl) (by kernel_rfl) (by kernel_rfl) (fun _ _ _ h => h) (Or.inr ⟨by rfl, by rfl⟩) (by assumption) ?_
      try simp only [Act.put, List.setIfInBounds_toArray, List.set_cons_zero, List.set_cons_succ]
      refine wpAnyH_take (i := 34) (oi := { dst := some 150, op := Go.Op.call { callee := Go.Callee.builtin Go.Builtin.len, args := #[Go.Operand.tmp 149], argTypes := #[22] }, type := 3, pos := "law.go:184", after := #[{ on := 33, ground := Go.Ground.data }, { on := 32, ground := Go.Ground.guard }], guard := some (32, true) }) (v := undef) rfl (by kernel_rfl) (by kernel_rfl) (by kernel_rfl) (fun _ _ _ h => h) (Or.inr ⟨by rfl, by rfl⟩) (by assumption) ?_
      try simp only [Act.put, List.setIfInBounds_toArray, List.set_cons_zero, List.set_cons_succ]
      refine wpAnyH_take (i := 35) (oi := { dst := some 151, op := Go.Op.binOp Go.BinOp.gtr 3 (Go.Operand.tmp 150) (Go.Operand.const (Go.Value.int Go.IntKind.i64 0)) 3, type := 4, pos := "law.go:184", after := #[{ on := 34, ground := Go.Ground.data }, { on := 32, ground := Go.Ground.guard }], guard := some (32, true) }) (v := undef) rfl (by kernel_rfl) (by kernel_rfl) (by kernel_rfl) (fun _ _ _ h => h) (Or.inr ⟨by rfl, by rfl⟩) (by assumption) ?_
      try simp only [Act.put, List.setIfInBounds_toArray, List.set_cons_zero, List.set_cons_succ]
      refine wpAnyH_take (i := 36) (oi := { dst := some 152, op := Go.Op.pick (Go.Operand.tmp 148) (Go.Operand.tmp 151) (Go.Operand.const (Go.Value.bool false)), type := 4, pos := "law.go:184", after := #[{ on := 32, ground := Go.Ground.data }, { on := 35, ground := Go.Ground.data }, { on := 28, ground := Go.Ground.guard }], guard := some (28, false) }) (v := undef) rfl (by kernel_rfl) (by kernel_rfl) (by kernel_rfl) (fun _ _ _ h => h) (Or.inr ⟨by rfl, by rfl⟩) (by assumption) ?_
      try simp only [Act.put, List.setIfInBounds_toArray, List.set_cons_zero, List.set_cons_succ]
      refine wpAnyH_take (i := 37) (oi := { dst := some 153, op := Go.Op.pick (Go.Operand.tmp 144) (Go.Operand.const (Go.Value.bool true)) (Go.Operand.tmp 152), type := 4, pos := "law.go:184", after := #[{ on := 28, ground := Go.Ground.data }, { on := 36, ground := Go.Ground.data }, { on := 17, ground := Go.Ground.guard }], guard := some (17, true) }) (v := ?_) rfl (by kernel_rfl) (by kernel_rfl) (by kernel_rfl) (fun _ _ _ h => h) (Or.inl ⟨by rfl, ?_⟩) (by assumption) ?_
      rotate_left
      · (intro w hSw; (try dsimp only at hSw); go_simp); try with_reducible rfl
      try simp only [Act.put, List.setIfInBounds_toArray, List.set_cons_zero, List.set_cons_succ]
      refine wpAnyH_take (i := 38) (oi := { dst := some 154, op := Go.Op.pick (Go.Operand.tmp 133) (Go.Operand.tmp 153) (Go.Operand.const (Go.Value.bool false)), type := 4, pos := "law.go:184", after := #[{ on := 17, ground := Go.Ground.data }, { on := 37, ground := Go.Ground.data }], guard := none }) (v := ?_) rfl (by kernel_rfl) (by kernel_rfl) (by kernel_rfl) (fun _ _ _ h => h) (Or.inl ⟨by rfl, ?_⟩) (by assumption) ?_
      rotate_left
      · (intro w hSw; (try dsimp only at hSw); go_simp); try with_reducible rfl
      try simp only [Act.put, List.setIfInBounds_toArray, List.set_cons_zero, List.set_cons_succ]
      refine wpAnyH_take (i := 39) (oi := { dst := some 10, op := Go.Op.assign (Go.Operand.tmp 154), type := 4, pos := "law.go:184", after := #[{ on := 38, ground := Go.Ground.data }, { on := 32, ground := Go.Ground.chain }, { on := 0, ground := Go.Ground.phase }, { on := 1, ground := Go.Ground.phase }, { on := 2, ground := Go.Ground.phase }, { on := 3, ground := Go.Ground.phase }, { on := 4, ground := Go.Ground.phase }, { on := 5, ground := Go.Ground.phase }, { on := 6, ground := Go.Ground.phase }, { on := 7, ground := Go.Ground.phase }, { on := 8, ground := Go.Ground.phase }, { on := 9, ground := Go.Ground.phase }, { on := 10, ground := Go.Ground.phase }, { on := 11, ground := Go.Ground.phase }, { on := 12, ground := Go.Ground.phase }, { on := 13, ground := Go.Ground.phase }, { on := 14, ground := Go.Ground.phase }, { on := 15, ground := Go.Ground.phase }, { on := 16, ground := Go.Ground.phase }, { on := 17, ground := Go.Ground.phase }, { on := 18, ground := Go.Ground.phase }, { on := 19, ground := Go.Ground.phase }, { on := 20, ground := Go.Ground.phase }, { on := 21, ground := Go.Ground.phase }, { on := 22, ground := Go.Ground.phase }, { on := 23, ground := Go.Ground.phase }, { on := 24, ground := Go.Ground.phase }, { on := 25, ground := Go.Ground.phase }, { on := 26, ground := Go.Ground.phase }, { on := 27, ground := Go.Ground.phase }, { on := 28, ground := Go.Ground.phase }, { on := 29, ground := Go.Ground.phase }, { on := 30, ground := Go.Ground.phase }, { on := 31, ground := Go.Ground.phase }, { on := 32, ground := Go.Ground.phase }, { on := 33, ground := Go.Ground.phase }, { on := 34, ground := Go.Ground.phase }, { on := 35, ground := Go.Ground.phase }, { on := 36, ground := Go.Ground.phase }, { on := 37, ground := Go.Ground.phase }, { on := 38, ground := Go.Ground.phase }], guard := none }) (v := ?_) rfl (by kernel_rfl) (by kernel_rfl) (by kernel_rfl) (fun _ _ _ h => h) (Or.inl ⟨by rfl, ?_⟩) (by assumption) ?_
      rotate_left
      · (intro w hSw; (try dsimp only at hSw); go_simp); try with_reducible rfl
      try simp only [Act.put, List.setIfInBounds_toArray, List.set_cons_zero, List.set_cons_succ]
      refine wpAnyH_done (by kernel_rfl) ?_ _
      have hbq := Lib.hid (K.out.b.trans ((Rx5.bel (gb := w.heap.size) (r := r) (W := wq) hHeld).mono K.out.b.size))
      clear hHeld
      go_wp2_with fail
      go_ret
      exact ⟨rfl, hbq.out⟩
    | false =>
      cases o2 with
      | true =>
        refine wp_region_held_drew (S := fun w' => w'.cell? ⟨w.heap.size, 0, none⟩ = some (.int .i64 r.X0) ∧ w'.cell? ⟨w.heap.size, 1, none⟩ = some (.int .i64 r.Y0) ∧ w'.cell? ⟨w.heap.size, 2, none⟩ = some (.int .i64 r.X1) ∧ w'.cell? ⟨w.heap.size, 3, none⟩ = some (.int .i64 r.Y1) ∧ w.heap.size < w'.heap.size ∧ Hid (Below wq.heap.size wq w')) (by kernel_rfl) ?_ (fun hHeld => ?_)
        · exact Rx5.drewN E1.out 1
        refine wpAnyH_take (i := 0) (oi := { dst := some 116, op := Go.Op.move (Go.Operand.tmp 11), type := 4, pos := "law.go:184", after := #[], guard := none }) (v := ?_) rfl (by kernel_rfl) (by kernel_rfl) (by kernel_rfl) (fun _ _ _ h => h) (Or.inl ⟨by rfl, ?_⟩) (by assumption) ?_
        rotate_left
        · (intro w hSw; (try dsimp only at hSw); go_simp); try with_reducible rfl
        try simp only [Act.put, List.setIfInBounds_toArray, List.set_cons_zero, List.set_cons_succ]
        refine wpAnyH_take (i := 1) (oi := { dst := some 117, op := Go.Op.move (Go.Operand.tmp 116), type := 4, pos := "law.go:184", after := #[{ on := 0, ground := Go.Ground.data }], guard := none }) (v := ?_) rfl (by kernel_rfl) (by kernel_rfl) (by kernel_rfl) (fun _ _ _ h => h) (Or.inl ⟨by rfl, ?_⟩) (by assumption) ?_
        rotate_left
        · (intro w hSw; (try dsimp only at hSw); go_simp); try with_reducible rfl
        try simp only [Act.put, List.setIfInBounds_toArray, List.set_cons_zero, List.set_cons_succ]
        refine wpAnyH_take (i := 2) (oi := { dst := some 118, op := Go.Op.move (Go.Operand.tmp 16), type := 4, pos := "law.go:184", after := #[{ on := 1, ground := Go.Ground.guard }], guard := some (1, true) }) (v := ?_) rfl (by kernel_rfl) (by kernel_rfl) (by kernel_rfl) (fun _ _ _ h => h) (Or.inl ⟨by rfl, ?_⟩) (by assumption) ?_
        rotate_left
        · (intro w hSw; (try dsimp only at hSw); go_simp); try with_reducible rfl
        try simp only [Act.put, List.setIfInBounds_toArray, List.set_cons_zero, List.set_cons_succ]
        refine wpAnyH_take (i := 3) (oi := { dst := some 119, op := Go.Op.unOp Go.UnOp.not 4 (Go.Operand.tmp 118), type := 4, pos := "law.go:184", after := #[{ on := 2, ground := Go.Ground.data }, { on := 1, ground := Go.Ground.guard }], guard := some (1, true) }) (v := ?_) rfl (by kernel_rfl) (by kernel_rfl) (by kernel_rfl) (fun _ _ _ h => h) (Or.inl ⟨by rfl, ?_⟩) (by assumption) ?_
        rotate_left
        · (intro w hSw; (try dsimp only at hSw); go_simp); try with_reducible rfl
        try simp only [Act.put, List.setIfInBounds_toArray, List.set_cons_zero, List.set_cons_succ]
        refine wpAnyH_take (i := 4) (oi := { dst := some 120, op := Go.Op.move (Go.Operand.tmp 119), type := 4, pos := "law.go:184", after := #[{ on := 3, ground := Go.Ground.data }, { on := 1, ground := Go.Ground.chain }, { on := 1, ground := Go.Ground.guard }], guard := some (1, true) }) (v := ?_) rfl (by kernel_rfl) (by kernel_rfl) (by kernel_rfl) (fun _ _ _ h => h) (Or.inl ⟨by rfl, ?_⟩) (by assumption) ?_
        rotate_left
        · (intro w hSw; (try dsimp only at hSw); go_simp); try with_reducible rfl
        try simp only [Act.put, List.setIfInBounds_toArray, List.set_cons_zero, List.set_cons_succ]
        refine wpAnyH_take (i := 5) (oi := { dst := some 121, op := Go.Op.load 33 (Go.Operand.tmp 5), type := 33, pos := "law.go:184", after := #[{ on := 4, ground := Go.Ground.guard }], guard := some (4, false) }) (v := undef) rfl (by kernel_rfl) (by kernel_rfl) (by kernel_rfl) (fun _ _ _ h => h) (Or.inr ⟨by rfl, by rfl⟩) (by assumption) ?_
        try simp only [Act.put, List.setIfInBounds_toArray, List.set_cons_zero, List.set_cons_succ]
        refine wpAnyH_take (i := 6) (oi := { dst := some 122, op := Go.Op.move (Go.Operand.tmp 1), type := 34, pos := "law.go:184", after := #[{ on := 4, ground := Go.Ground.guard }], guard := some (4, false) }) (v := undef) rfl (by kernel_rfl) (by kernel_rfl) (by kernel_rfl) (fun _ _ _ h => h) (Or.inr ⟨by rfl, by rfl⟩) (by assumption) ?_
        try simp only [Act.put, List.setIfInBounds_toArray, List.set_cons_zero, List.set_cons_succ]
        refine wpAnyH_take (i := 7) (oi := { dst := some 123, op := Go.Op.move (Go.Operand.tmp 4), type := 3, pos := "law.go:184", after := #[{ on := 4, ground := Go.Ground.guard }], guard := some (4, false) }) (v := undef) rfl (by kernel_rfl) (by kernel_rfl) (by kernel_rfl) (fun _ _ _ h => h) (Or.inr ⟨by rfl, by rfl⟩) (by assumption) ?_
        try simp only [Act.put, List.setIfInBounds_toArray, List.set_cons_zero, List.set_cons_succ]
        refine wpAnyH_take (i := 8) (oi := { dst := some 124, op := Go.Op.move (Go.Operand.tmp 1), type := 34, pos := "law.go:184", after := #[{ on := 4, ground := Go.Ground.guard }], guard := some (4, false) }) (v := undef) rfl (by kernel_rfl) (by kernel_rfl) (by kernel_rfl) (fun _ _ _ h => h) (Or.inr ⟨by rfl, by rfl⟩) (by assumption) ?_
        try simp only [Act.put, List.setIfInBounds_toArray, List.set_cons_zero, List.set_cons_succ]
        refine wpAnyH_take (i := 9) (oi := { dst := some 125, op := Go.Op.call { callee := Go.Callee.builtin Go.Builtin.len, args := #[Go.Operand.tmp 124], argTypes := #[34] }, type := 3, pos := "law.go:184", after := #[{ on := 8, ground := Go.Ground.data }, { on := 4, ground := Go.Ground.guard }], guard := some (4, false) }) (v := undef) rfl (by kernel_rfl) (by kernel_rfl) (by kernel_rfl) (fun _ _ _ h => h) (Or.inr ⟨by rfl, by rfl⟩) (by assumption) ?_
        try simp only [Act.put, List.setIfInBounds_toArray, List.set_cons_zero, List.set_cons_succ]
        refine wpAnyH_take (i := 10) (oi := { dst := some 126, op := Go.Op.call { callee := Go.Callee.builtin Go.Builtin.min, args := #[Go.Operand.tmp 123, Go.Operand.tmp 125], argTypes := #[3, 3] }, type := 3, pos := "law.go:184", after := #[{ on := 7, ground := Go.Ground.data }, { on := 9, ground := Go.Ground.data }, { on := 4, ground := Go.Ground.guard }], guard := some (4, false) }) (v := undef) rfl (by kernel_rfl) (by kernel_rfl) (by kernel_rfl) (fun _ _ _ h => h) (Or.inr ⟨by rfl, by rfl⟩) (by assumption) ?_
        try simp only [Act.put, List.setIfInBounds_toArray, List.set_cons_zero, List.set_cons_succ]
        refine wpAnyH_take (i := 11) (oi := { dst := some 127, op := Go.Op.call { callee := Go.Callee.builtin Go.Builtin.max, args := #[Go.Operand.const (Go.Value.int Go.IntKind.i64 0), Go.Operand.tmp 126], argTypes := #[3, 3] }, type := 3, pos := "law.go:184", after := #[{ on := 10, ground := Go.Ground.data }, { on := 4, ground := Go.Ground.guard }], guard := some (4, false) }) (v := undef) rfl (by kernel_rfl) (by kernel_rfl) (by kernel_rfl) (fun _ _ _ h => h) (Or.inr ⟨by rfl, by rfl⟩) (by assumption) ?_
        try simp only [Act.put, List.setIfInBounds_toArray, List.set_cons_zero, List.set_cons_succ]
        refine wpAnyH_take (i := 12) (oi := { dst := some 128, op := Go.Op.slice 34 (Go.Operand.tmp 122) none (some (Go.Operand.tmp 127)) none, type := 34, pos := "law.go:184", after := #[{ on := 6, ground := Go.Ground.data }, { on := 11, ground := Go.Ground.data }, { on := 4, ground := Go.Ground.guard }], guard := some (4, false) }) (v := undef) rfl (by kernel_rfl) (by kernel_rfl) (by kernel_rfl) (fun _ _ _ h => h) (Or.inr ⟨by rfl, by rfl⟩) (by assumption) ?_
        try simp only [Act.put, List.setIfInBounds_toArray, List.set_cons_zero, List.set_cons_succ]
        refine wpAnyH_take (i := 13) (oi := { dst := some 129, op := Go.Op.move (Go.Operand.tmp 12), type := 22, pos := "law.go:184", after := #[{ on := 4, ground := Go.Ground.guard }], guard := some (4, false) }) (v := undef) rfl (by kernel_rfl) (by kernel_rfl) (by kernel_rfl) (fun _ _ _ h => h) (Or.inr ⟨by rfl, by rfl⟩) (by assumption) ?_
        try simp only [Act.put, List.setIfInBounds_toArray, List.set_cons_zero, List.set_cons_succ]
        refine wpAnyH_take (i := 14) (oi := { dst := some 130, op := Go.Op.call { callee := Go.Callee.value (Go.Operand.func 21), args := #[Go.Operand.tmp 121, Go.Operand.tmp 128, Go.Operand.tmp 129], argTypes := #[33, 34, 22] }, type := 4, pos := "law.go:184", after := #[{ on := 5, ground := Go.Ground.data }, { on := 12, ground := Go.Ground.data }, { on := 13, ground := Go.Ground.data }, { on := 4, ground := Go.Ground.chain }, { on := 4, ground := Go.Ground.guard }], guard := some (4, false) }) (v := undef) rfl (by kernel_rfl) (by kernel_rfl) (by kernel_rfl) (fun _ _ _ h => h) (Or.inr ⟨by rfl, by rfl⟩) (by assumption) ?_
        try simp only [Act.put, List.setIfInBounds_toArray, List.set_cons_zero, List.set_cons_succ]
        refine wpAnyH_take (i := 15) (oi := { dst := some 131, op := Go.Op.pick (Go.Operand.tmp 120) (Go.Operand.const (Go.Value.bool true)) (Go.Operand.tmp 130), type := 4, pos := "law.go:184", after := #[{ on := 4, ground := Go.Ground.data }, { on := 14, ground := Go.Ground.data }, { on := 1, ground := Go.Ground.guard }], guard := some (1, true) }) (v := ?_) rfl (by kernel_rfl) (by kernel_rfl) (by kernel_rfl) (fun _ _ _ h => h) (Or.inl ⟨by rfl, ?_⟩) (by assumption) ?_
        rotate_left
        · (intro w hSw; (try dsimp only at hSw); go_simp); try with_reducible rfl
        try simp only [Act.put, List.setIfInBounds_toArray, List.set_cons_zero, List.set_cons_succ]
        refine wpAnyH_take (i := 16) (oi := { dst := some 132, op := Go.Op.pick (Go.Operand.tmp 117) (Go.Operand.tmp 131) (Go.Operand.const (Go.Value.bool false)), type := 4, pos := "law.go:184", after := #[{ on := 1, ground := Go.Ground.data }, { on := 15, ground := Go.Ground.data }], guard := none }) (v := ?_) rfl (by kernel_rfl) (by kernel_rfl) (by kernel_rfl) (fun _ _ _ h => h) (Or.inl ⟨by rfl, ?_⟩) (by assumption) ?_
        rotate_left
        · (intro w hSw; (try dsimp only at hSw); go_simp); try with_reducible rfl
        try simp only [Act.put, List.setIfInBounds_toArray, List.set_cons_zero, List.set_cons_succ]
        refine wpAnyH_take (i := 17) (oi := { dst := some 133, op := Go.Op.move (Go.Operand.tmp 132), type := 4, pos := "law.go:184", after := #[{ on := 16, ground := Go.Ground.data }, { on := 14, ground := Go.Ground.chain }], guard := none }) (v := ?_) rfl (by kernel_rfl) (by kernel_rfl) (by kernel_rfl) (fun _ _ _ h => h) (Or.inl ⟨by rfl, ?_⟩) (by assumption) ?_
        rotate_left
        · (intro w hSw; (try dsimp only at hSw); go_simp); try with_reducible rfl
        try simp only [Act.put, List.setIfInBounds_toArray, List.set_cons_zero, List.set_cons_succ]
        refine wpAnyH_take (i := 18) (oi := { dst := some 134, op := Go.Op.move (Go.Operand.tmp 16), type := 4, pos := "law.go:184", after := #[{ on := 17, ground := Go.Ground.guard }], guard := some (17, true) }) (v := ?_) rfl (by kernel_rfl) (by kernel_rfl) (by kernel_rfl) (fun _ _ _ h => h) (Or.inl ⟨by rfl, ?_⟩) (by assumption) ?_
        rotate_left
        · (intro w hSw; (try dsimp only at hSw); go_simp); try with_reducible rfl
        try simp only [Act.put, List.setIfInBounds_toArray, List.set_cons_zero, List.set_cons_succ]
        refine wpAnyH_take (i := 19) (oi := { dst := some 135, op := Go.Op.move (Go.Operand.tmp 134), type := 4, pos := "law.go:184", after := #[{ on := 18, ground := Go.Ground.data }, { on := 17, ground := Go.Ground.chain }, { on := 17, ground := Go.Ground.guard }], guard := some (17, true) }) (v := ?_) rfl (by kernel_rfl) (by kernel_rfl) (by kernel_rfl) (fun _ _ _ h => h) (Or.inl ⟨by rfl, ?_⟩) (by assumption) ?_
        rotate_left
        · (intro w hSw; (try dsimp only at hSw); go_simp); try with_reducible rfl
        try simp only [Act.put, List.setIfInBounds_toArray, List.set_cons_zero, List.set_cons_succ]
        refine wpAnyH_take (i := 20) (oi := { dst := some 136, op := Go.Op.move (Go.Operand.tmp 17), type := 4, pos := "law.go:184", after := #[{ on := 19, ground := Go.Ground.guard }], guard := some (19, false) }) (v := ?_) rfl (by kernel_rfl) (by kernel_rfl) (by kernel_rfl) (fun _ _ _ h => h) (Or.inl ⟨by rfl, ?_⟩) (by assumption) ?_
        rotate_left
        · (intro w hSw; (try dsimp only at hSw); go_simp); try with_reducible rfl
        try simp only [Act.put, List.setIfInBounds_toArray, List.set_cons_zero, List.set_cons_succ]
        refine wpAnyH_take (i := 21) (oi := { dst := some 137, op := Go.Op.pick (Go.Operand.tmp 135) (Go.Operand.const (Go.Value.bool true)) (Go.Operand.tmp 136), type := 4, pos := "law.go:184", after := #[{ on := 19, ground := Go.Ground.data }, { on := 20, ground := Go.Ground.data }, { on := 17, ground := Go.Ground.guard }], guard := some (17, true) }) (v := ?_) rfl (by kernel_rfl) (by kernel_rfl) (by kernel_rfl) (fun _ _ _ h => h) (Or.inl ⟨by rfl, ?_⟩) (by assumption) ?_
        rotate_left
        · (intro w hSw; (try dsimp only at hSw); go_simp); try with_reducible rfl
        try simp only [Act.put, List.setIfInBounds_toArray, List.set_cons_zero, List.set_cons_succ]
        refine wpAnyH_take (i := 22) (oi := { dst := some 138, op := Go.Op.move (Go.Operand.tmp 137), type := 4, pos := "law.go:184", after := #[{ on := 21, ground := Go.Ground.data }, { on := 19, ground := Go.Ground.chain }, { on := 17, ground := Go.Ground.guard }], guard := some (17, true) }) (v := ?_) rfl (by kernel_rfl) (by kernel_rfl) (by kernel_rfl) (fun _ _ _ h => h) (Or.inl ⟨by rfl, ?_⟩) (by assumption) ?_
        rotate_left
        · (intro w hSw; (try dsimp only at hSw); go_simp); try with_reducible rfl
        try simp only [Act.put, List.setIfInBounds_toArray, List.set_cons_zero, List.set_cons_succ]
        refine wpAnyH_take (i := 23) (oi := { dst := some 139, op := Go.Op.load 33 (Go.Operand.tmp 5), type := 33, pos := "law.go:184", after := #[{ on := 22, ground := Go.Ground.guard }], guard := some (22, false) }) (v := undef) rfl (by kernel_rfl) (by kernel_rfl) (by kernel_rfl) (fun _ _ _ h => h) (Or.inr ⟨by rfl, by rfl⟩) (by assumption) ?_
        try simp only [Act.put, List.setIfInBounds_toArray, List.set_cons_zero, List.set_cons_succ]
        refine wpAnyH_take (i := 24) (oi := { dst := some 140, op := Go.Op.move (Go.Operand.tmp 1), type := 34, pos := "law.go:184", after := #[{ on := 22, ground := Go.Ground.guard }], guard := some (22, false) }) (v := undef) rfl (by kernel_rfl) (by kernel_rfl) (by kernel_rfl) (fun _ _ _ h => h) (Or.inr ⟨by rfl, by rfl⟩) (by assumption) ?_
        try simp only [Act.put, List.setIfInBounds_toArray, List.set_cons_zero, List.set_cons_succ]
        refine wpAnyH_take (i := 25) (oi := { dst := some 141, op := Go.Op.call { callee := Go.Callee.value (Go.Operand.func 29), args := #[Go.Operand.tmp 139, Go.Operand.tmp 140], argTypes := #[33, 34] }, type := 4, pos := "law.go:184", after := #[{ on := 23, ground := Go.Ground.data }, { on := 24, ground := Go.Ground.data }, { on := 22, ground := Go.Ground.chain }, { on := 22, ground := Go.Ground.guard }], guard := some (22, false) }) (v := undef) rfl (by kernel_rfl) (by kernel_rfl) (by kernel_rfl) (fun _ _ _ h => h) (Or.inr ⟨by rfl, by rfl⟩) (by assumption) ?_
        try simp only [Act.put, List.setIfInBounds_toArray, List.set_cons_zero, List.set_cons_succ]
        refine wpAnyH_take (i := 26) (oi := { dst := some 142, op := Go.Op.unOp Go.UnOp.not 4 (Go.Operand.tmp 141), type := 4, pos := "law.go:184", after := #[{ on := 25, ground := Go.Ground.data }, { on := 22, ground := Go.Ground.guard }], guard := some (22, false) }) (v := undef) rfl (by kernel_rfl) (by kernel_rfl) (by kernel_rfl) (fun _ _ _ h => h) (Or.inr ⟨by rfl, by rfl⟩) (by assumption) ?_
        try simp only [Act.put, List.setIfInBounds_toArray, List.set_cons_zero, List.set_cons_succ]
        refine wpAnyH_take (i := 27) (oi := { dst := some 143, op := Go.Op.pick (Go.Operand.tmp 138) (Go.Operand.const (Go.Value.bool true)) (Go.Operand.tmp 142), type := 4, pos := "law.go:184", after := #[{ on := 22, ground := Go.Ground.data }, { on := 26, ground := Go.Ground.data }, { on := 17, ground := Go.Ground.guard }], guard := some (17, true) }) (v := ?_) rfl (by kernel_rfl) (by kernel_rfl) (by kernel_rfl) (fun _ _ _ h => h) (Or.inl ⟨by rfl, ?_⟩) (by assumption) ?_
        rotate_left
        · (intro w hSw; (try dsimp only at hSw); go_simp); try with_reducible rfl
        try simp only [Act.put, List.setIfInBounds_toArray, List.set_cons_zero, List.set_cons_succ]
        refine wpAnyH_take (i := 28) (oi := { dst := some 144, op := Go.Op.move (Go.Operand.tmp 143), type := 4, pos := "law.go:184", after := #[{ on := 27, ground := Go.Ground.data }, { on := 25, ground := Go.Ground.chain }, { on := 17, ground := Go.Ground.guard }], guard := some (17, true) }) (v := ?_) rfl (by kernel_rfl) (by kernel_rfl) (by kernel_rfl) (fun _ _ _ h => h) (Or.inl ⟨by rfl, ?_⟩) (by assumption) ?_
        rotate_left
        · (intro w hSw; (try dsimp only at hSw); go_simp); try with_reducible rfl
        try simp only [Act.put, List.setIfInBounds_toArray, List.set_cons_zero, List.set_cons_succ]
        refine wpAnyH_take (i := 29) (oi := { dst := some 145, op := Go.Op.move (Go.Operand.tmp 12), type := 22, pos := "law.go:184", after := #[{ on := 28, ground := Go.Ground.guard }], guard := some (28, false) }) (v := undef) rfl (by kernel_rfl) (by kernel_rfl) (by kernel_rfl) (fun _ _ _ h => h) (Or.inr ⟨by rfl, by rfl⟩) (by assumption) ?_
        try simp only [Act.put, List.setIfInBounds_toArray, List.set_cons_zero, List.set_cons_succ]
        refine wpAnyH_take (i := 30) (oi := { dst := some 146, op := Go.Op.call { callee := Go.Callee.builtin Go.Builtin.len, args := #[Go.Operand.tmp 145], argTypes := #[22] }, type := 3, pos := "law.go:184", after := #[{ on := 29, ground := Go.Ground.data }, { on := 28, ground := Go.Ground.guard }], guard := some (28, false) }) (v := undef) rfl (by kernel_rfl) (by kernel_rfl) (by kernel_rfl) (fun _ _ _ h => h) (Or.inr ⟨by rfl, by rfl⟩) (by assumption) ?_
        try simp only [Act.put, List.setIfInBounds_toArray, List.set_cons_zero, List.set_cons_succ]
        refine wpAnyH_take (i := 31) (oi := { dst := some 147, op := Go.Op.binOp Go.BinOp.gtr 3 (Go.Operand.tmp 146) (Go.Operand.const (Go.Value.int Go.IntKind.i64 0)) 3, type := 4, pos := "law.go:184", after := #[{ on := 30, ground := Go.Ground.data }, { on := 28, ground := Go.Ground.guard }], guard := some (28, false) }) (v := undef) rfl (by kernel_rfl) (by kernel_rfl) (by kernel_rfl) (fun _ _ _ h => h) (Or.inr ⟨by rfl, by rfl⟩) (by assumption) ?_
        try simp only [Act.put, List.setIfInBounds_toArray, List.set_cons_zero, List.set_cons_succ]
        refine wpAnyH_take (i := 32) (oi := { dst := some 148, op := Go.Op.move (Go.Operand.tmp 147), type := 4, pos := "law.go:184", after := #[{ on := 31, ground := Go.Ground.data }, { on := 28, ground := Go.Ground.chain }, { on := 28, ground := Go.Ground.guard }], guard := some (28, false) }) (v := undef) rfl (by kernel_rfl) (by kernel_rfl) (by kernel_rfl) (fun _ _ _ h => h) (Or.inr ⟨by rfl, by rfl⟩) (by assumption) ?_
        try simp only [Act.put, List.setIfInBounds_toArray, List.set_cons_zero, List.set_cons_succ]
        refine wpAnyH_take (i := 33) (oi := { dst := some 149, op := Go.Op.move (Go.Operand.tmp 14), type := 22, pos := "law.go:184", after := #[{ on := 32, ground := Go.Ground.guard }], guard := some (32, true) }) (v := undef) rfl (by kernel_rfl) (by kernel_rfl) (by kernel_rfl) (fun _ _ _ h => h) (Or.inr ⟨by rfl, by rfl⟩) (by assumption) ?_
        try simp only [Act.put, List.setIfInBounds_toArray, List.set_cons_zero, List.set_cons_succ]
        refine wpAnyH_take (i := 34) (oi := { dst := some 150, op := Go.Op.call { callee := Go.Callee.builtin Go.Builtin.len, args := #[Go.Operand.tmp 149], argTypes := #[22] }, type := 3, pos := "law.go:184", after := #[{ on := 33, ground := Go.Ground.data }, { on := 32, ground := Go.Ground.guard }], guard := some (32, true) }) (v := undef) rfl (by kernel_rfl) (by kernel_rfl) (by kernel_rfl) (fun _ _ _ h => h) (Or.inr ⟨by rfl, by rfl⟩) (by assumption) ?_
        try simp only [Act.put, List.setIfInBounds_toArray, List.set_cons_zero, List.set_cons_succ]
        refine wpAnyH_take (i := 35) (oi := { dst := some 151, op := Go.Op.binOp Go.BinOp.gtr 3 (Go.Operand.tmp 150) (Go.Operand.const (Go.Value.int Go.IntKind.i64 0)) 3, type := 4, pos := "law.go:184", after := #[{ on := 34, ground := Go.Ground.data }, { on := 32, ground := Go.Ground.guard }], guard := some (32, true) }) (v := undef) rfl (by kernel_rfl) (by kernel_rfl) (by kernel_rfl) (fun _ _ _ h => h) (Or.inr ⟨by rfl, by rfl⟩) (by assumption) ?_
        try simp only [Act.put, List.setIfInBounds_toArray, List.set_cons_zero, List.set_cons_succ]
        refine wpAnyH_take (i := 36) (oi := { dst := some 152, op := Go.Op.pick (Go.Operand.tmp 148) (Go.Operand.tmp 151) (Go.Operand.const (Go.Value.bool false)), type := 4, pos := "law.go:184", after := #[{ on := 32, ground := Go.Ground.data }, { on := 35, ground := Go.Ground.data }, { on := 28, ground := Go.Ground.guard }], guard := some (28, false) }) (v := undef) rfl (by kernel_rfl) (by kernel_rfl) (by kernel_rfl) (fun _ _ _ h => h) (Or.inr ⟨by rfl, by rfl⟩) (by assumption) ?_
        try simp only [Act.put, List.setIfInBounds_toArray, List.set_cons_zero, List.set_cons_succ]
        refine wpAnyH_take (i := 37) (oi := { dst := some 153, op := Go.Op.pick (Go.Operand.tmp 144) (Go.Operand.const (Go.Value.bool true)) (Go.Operand.tmp 152), type := 4, pos := "law.go:184", after := #[{ on := 28, ground := Go.Ground.data }, { on := 36, ground := Go.Ground.data }, { on := 17, ground := Go.Ground.guard }], guard := some (17, true) }) (v := ?_) rfl (by kernel_rfl) (by kernel_rfl) (by kernel_rfl) (fun _ _ _ h => h) (Or.inl ⟨by rfl, ?_⟩) (by assumption) ?_
        rotate_left
        · (intro w hSw; (try dsimp only at hSw); go_simp); try with_reducible rfl
        try simp only [Act.put, List.setIfInBounds_toArray, List.set_cons_zero, List.set_cons_succ]
        refine wpAnyH_take (i := 38) (oi := { dst := some 154, op := Go.Op.pick (Go.Operand.tmp 133) (Go.Operand.tmp 153) (Go.Operand.const (Go.Value.bool false)), type := 4, pos := "law.go:184", after := #[{ on := 17, ground := Go.Ground.data }, { on := 37, ground := Go.Ground.data }], guard := none }) (v := ?_) rfl (by kernel_rfl) (by kernel_rfl) (by kernel_rfl) (fun _ _ _ h => h) (Or.inl ⟨by rfl, ?_⟩) (by assumption) ?_
        rotate_left
        · (intro w hSw; (try dsimp only at hSw); go_simp); try with_reducible rfl
        try simp only [Act.put, List.setIfInBounds_toArray, List.set_cons_zero, List.set_cons_succ]
        refine wpAnyH_take (i := 39) (oi := { dst := some 10, op := Go.Op.assign (Go.Operand.tmp 154), type := 4, pos := "law.go:184", after := #[{ on := 38, ground := Go.Ground.data }, { on := 32, ground := Go.Ground.chain }, { on := 0, ground := Go.Ground.phase }, { on := 1, ground := Go.Ground.phase }, { on := 2, ground := Go.Ground.phase }, { on := 3, ground := Go.Ground.phase }, { on := 4, ground := Go.Ground.phase }, { on := 5, ground := Go.Ground.phase }, { on := 6, ground := Go.Ground.phase }, { on := 7, ground := Go.Ground.phase }, { on := 8, ground := Go.Ground.phase }, { on := 9, ground := Go.Ground.phase }, { on := 10, ground := Go.Ground.phase }, { on := 11, ground := Go.Ground.phase }, { on := 12, ground := Go.Ground.phase }, { on := 13, ground := Go.Ground.phase }, { on := 14, ground := Go.Ground.phase }, { on := 15, ground := Go.Ground.phase }, { on := 16, ground := Go.Ground.phase }, { on := 17, ground := Go.Ground.phase }, { on := 18, ground := Go.Ground.phase }, { on := 19, ground := Go.Ground.phase }, { on := 20, ground := Go.Ground.phase }, { on := 21, ground := Go.Ground.phase }, { on := 22, ground := Go.Ground.phase }, { on := 23, ground := Go.Ground.phase }, { on := 24, ground := Go.Ground.phase }, { on := 25, ground := Go.Ground.phase }, { on := 26, ground := Go.Ground.phase }, { on := 27, ground := Go.Ground.phase }, { on := 28, ground := Go.Ground.phase }, { on := 29, ground := Go.Ground.phase }, { on := 30, ground := Go.Ground.phase }, { on := 31, ground := Go.Ground.phase }, { on := 32, ground := Go.Ground.phase }, { on := 33, ground := Go.Ground.phase }, { on := 34, ground := Go.Ground.phase }, { on := 35, ground := Go.Ground.phase }, { on := 36, ground := Go.Ground.phase }, { on := 37, ground := Go.Ground.phase }, { on := 38, ground := Go.Ground.phase }], guard := none }) (v := ?_) rfl (by kernel_rfl) (by kernel_rfl) (by kernel_rfl) (fun _ _ _ h => h) (Or.inl ⟨by rfl, ?_⟩) (by assumption) ?_
        rotate_left
        · (intro w hSw; (try dsimp only at hSw); go_simp); try with_reducible rfl
        try simp only [Act.put, List.setIfInBounds_toArray, List.set_cons_zero, List.set_cons_succ]
        refine wpAnyH_done (by kernel_rfl) ?_ _
        have hbq := Lib.hid (K.out.b.trans ((Rx5.bel (gb := w.heap.size) (r := r) (W := wq) hHeld).mono K.out.b.size))
        clear hHeld
        go_wp2_with fail
        go_ret
        exact ⟨rfl, hbq.out⟩
      | false =>
        cases v with
        | false =>
          refine wp_region_held_drew (S := fun w' => w'.cell? ⟨w.heap.size, 0, none⟩ = some (.int .i64 r.X0) ∧ w'.cell? ⟨w.heap.size, 1, none⟩ = some (.int .i64 r.Y0) ∧ w'.cell? ⟨w.heap.size, 2, none⟩ = some (.int .i64 r.X1) ∧ w'.cell? ⟨w.heap.size, 3, none⟩ = some (.int .i64 r.Y1) ∧ w.heap.size < w'.heap.size ∧ Hid (Below wq.heap.size wq w')) (by kernel_rfl) ?_ (fun hHeld => ?_)
          · exact Rx5.drewN E1.out 1
          refine wpAnyH_take (i := 0) (oi := { dst := some 116, op := Go.Op.move (Go.Operand.tmp 11), type := 4, pos := "law.go:184", after := #[], guard := none }) (v := ?_) rfl (by kernel_rfl) (by kernel_rfl) (by kernel_rfl) (fun _ _ _ h => h) (Or.inl ⟨by rfl, ?_⟩) (by assumption) ?_
          rotate_left
          · (intro w hSw; (try dsimp only at hSw); go_simp); try with_reducible rfl
          try simp only [Act.put, List.setIfInBounds_toArray, List.set_cons_zero, List.set_cons_succ]
          refine wpAnyH_take (i := 1) (oi := { dst := some 117, op := Go.Op.move (Go.Operand.tmp 116), type := 4, pos := "law.go:184", after := #[{ on := 0, ground := Go.Ground.data }], guard := none }) (v := ?_) rfl (by kernel_rfl) (by kernel_rfl) (by kernel_rfl) (fun _ _ _ h => h) (Or.inl ⟨by rfl, ?_⟩) (by assumption) ?_
          rotate_left
          · (intro w hSw; (try dsimp only at hSw); go_simp); try with_reducible rfl
          try simp only [Act.put, List.setIfInBounds_toArray, List.set_cons_zero, List.set_cons_succ]
          refine wpAnyH_take (i := 2) (oi := { dst := some 118, op := Go.Op.move (Go.Operand.tmp 16), type := 4, pos := "law.go:184", after := #[{ on := 1, ground := Go.Ground.guard }], guard := some (1, true) }) (v := ?_) rfl (by kernel_rfl) (by kernel_rfl) (by kernel_rfl) (fun _ _ _ h => h) (Or.inl ⟨by rfl, ?_⟩) (by assumption) ?_
          rotate_left
          · (intro w hSw; (try dsimp only at hSw); go_simp); try with_reducible rfl
          try simp only [Act.put, List.setIfInBounds_toArray, List.set_cons_zero, List.set_cons_succ]
          refine wpAnyH_take (i := 3) (oi := { dst := some 119, op := Go.Op.unOp Go.UnOp.not 4 (Go.Operand.tmp 118), type := 4, pos := "law.go:184", after := #[{ on := 2, ground := Go.Ground.data }, { on := 1, ground := Go.Ground.guard }], guard := some (1, true) }) (v := ?_) rfl (by kernel_rfl) (by kernel_rfl) (by kernel_rfl) (fun _ _ _ h => h) (Or.inl ⟨by rfl, ?_⟩) (by assumption) ?_
          rotate_left
          · (intro w hSw; (try dsimp only at hSw); go_simp); try with_reducible rfl
          try simp only [Act.put, List.setIfInBounds_toArray, List.set_cons_zero, List.set_cons_succ]
          refine wpAnyH_take (i := 4) (oi := { dst := some 120, op := Go.Op.move (Go.Operand.tmp 119), type := 4, pos := "law.go:184", after := #[{ on := 3, ground := Go.Ground.data }, { on := 1, ground := Go.Ground.chain }, { on := 1, ground := Go.Ground.guard }], guard := some (1, true) }) (v := ?_) rfl (by kernel_rfl) (by kernel_rfl) (by kernel_rfl) (fun _ _ _ h => h) (Or.inl ⟨by rfl, ?_⟩) (by assumption) ?_
          rotate_left
          · (intro w hSw; (try dsimp only at hSw); go_simp); try with_reducible rfl
          try simp only [Act.put, List.setIfInBounds_toArray, List.set_cons_zero, List.set_cons_succ]
          refine wpAnyH_take (i := 5) (oi := { dst := some 121, op := Go.Op.load 33 (Go.Operand.tmp 5), type := 33, pos := "law.go:184", after := #[{ on := 4, ground := Go.Ground.guard }], guard := some (4, false) }) (v := undef) rfl (by kernel_rfl) (by kernel_rfl) (by kernel_rfl) (fun _ _ _ h => h) (Or.inr ⟨by rfl, by rfl⟩) (by assumption) ?_
          try simp only [Act.put, List.setIfInBounds_toArray, List.set_cons_zero, List.set_cons_succ]
          refine wpAnyH_take (i := 6) (oi := { dst := some 122, op := Go.Op.move (Go.Operand.tmp 1), type := 34, pos := "law.go:184", after := #[{ on := 4, ground := Go.Ground.guard }], guard := some (4, false) }) (v := undef) rfl (by kernel_rfl) (by kernel_rfl) (by kernel_rfl) (fun _ _ _ h => h) (Or.inr ⟨by rfl, by rfl⟩) (by assumption) ?_
          try simp only [Act.put, List.setIfInBounds_toArray, List.set_cons_zero, List.set_cons_succ]
          refine wpAnyH_take (i := 7) (oi := { dst := some 123, op := Go.Op.move (Go.Operand.tmp 4), type := 3, pos := "law.go:184", after := #[{ on := 4, ground := Go.Ground.guard }], guard := some (4, false) }) (v := undef) rfl (by kernel_rfl) (by kernel_rfl) (by kernel_rfl) (fun _ _ _ h => h) (Or.inr ⟨by rfl, by rfl⟩) (by assumption) ?_
          try simp only [Act.put, List.setIfInBounds_toArray, List.set_cons_zero, List.set_cons_succ]
          refine wpAnyH_take (i := 8) (oi := { dst := some 124, op := Go.Op.move (Go.Operand.tmp 1), type := 34, pos := "law.go:184", after := #[{ on := 4, ground := Go.Ground.guard }], guard := some (4, false) }) (v := undef) rfl (by kernel_rfl) (by kernel_rfl) (by kernel_rfl) (fun _ _ _ h => h) (Or.inr ⟨by rfl, by rfl⟩) (by assumption) ?_
          try simp only [Act.put, List.setIfInBounds_toArray, List.set_cons_zero, List.set_cons_succ]
          refine wpAnyH_take (i := 9) (oi := { dst := some 125, op := Go.Op.call { callee := Go.Callee.builtin Go.Builtin.len, args := #[Go.Operand.tmp 124], argTypes := #[34] }, type := 3, pos := "law.go:184", after := #[{ on := 8, ground := Go.Ground.data }, { on := 4, ground := Go.Ground.guard }], guard := some (4, false) }) (v := undef) rfl (by kernel_rfl) (by kernel_rfl) (by kernel_rfl) (fun _ _ _ h => h) (Or.inr ⟨by rfl, by rfl⟩) (by assumption) ?_
          try simp only [Act.put, List.setIfInBounds_toArray, List.set_cons_zero, List.set_cons_succ]
          refine wpAnyH_take (i := 10) (oi := { dst := some 126, op := Go.Op.call { callee := Go.Callee.builtin Go.Builtin.min, args := #[Go.Operand.tmp 123, Go.Operand.tmp 125], argTypes := #[3, 3] }, type := 3, pos := "law.go:184", after := #[{ on := 7, ground := Go.Ground.data }, { on := 9, ground := Go.Ground.data }, { on := 4, ground := Go.Ground.guard }], guard := some (4, false) }) (v := undef) rfl (by kernel_rfl) (by kernel_rfl) (by kernel_rfl) (fun _ _ _ h => h) (Or.inr ⟨by rfl, by rfl⟩) (by assumption) ?_
          try simp only [Act.put, List.setIfInBounds_toArray, List.set_cons_zero, List.set_cons_succ]
          refine wpAnyH_take (i := 11) (oi := { dst := some 127, op := Go.Op.call { callee := Go.Callee.builtin Go.Builtin.max, args := #[Go.Operand.const (Go.Value.int Go.IntKind.i64 0), Go.Operand.tmp 126], argTypes := #[3, 3] }, type := 3, pos := "law.go:184", after := #[{ on := 10, ground := Go.Ground.data }, { on := 4, ground := Go.Ground.guard }], guard := some (4, false) }) (v := undef) rfl (by kernel_rfl) (by kernel_rfl) (by kernel_rfl) (fun _ _ _ h => h) (Or.inr ⟨by rfl, by rfl⟩) (by assumption) ?_
          try simp only [Act.put, List.setIfInBounds_toArray, List.set_cons_zero, List.set_cons_succ]
          refine wpAnyH_take (i := 12) (oi := { dst := some 128, op := Go.Op.slice 34 (Go.Operand.tmp 122) none (some (Go.Operand.tmp 127)) none, type := 34, pos := "law.go:184", after := #[{ on := 6, ground := Go.Ground.data }, { on := 11, ground := Go.Ground.data }, { on := 4, ground := Go.Ground.guard }], guard := some (4, false) }) (v := undef) rfl (by kernel_rfl) (by kernel_rfl) (by kernel_rfl) (fun _ _ _ h => h) (Or.inr ⟨by rfl, by rfl⟩) (by assumption) ?_
          try simp only [Act.put, List.setIfInBounds_toArray, List.set_cons_zero, List.set_cons_succ]
          refine wpAnyH_take (i := 13) (oi := { dst := some 129, op := Go.Op.move (Go.Operand.tmp 12), type := 22, pos := "law.go:184", after := #[{ on := 4, ground := Go.Ground.guard }], guard := some (4, false) }) (v := undef) rfl (by kernel_rfl) (by kernel_rfl) (by kernel_rfl) (fun _ _ _ h => h) (Or.inr ⟨by rfl, by rfl⟩) (by assumption) ?_
          try simp only [Act.put, List.setIfInBounds_toArray, List.set_cons_zero, List.set_cons_succ]
          refine wpAnyH_take (i := 14) (oi := { dst := some 130, op := Go.Op.call { callee := Go.Callee.value (Go.Operand.func 21), args := #[Go.Operand.tmp 121, Go.Operand.tmp 128, Go.Operand.tmp 129], argTypes := #[33, 34, 22] }, type := 4, pos := "law.go:184", after := #[{ on := 5, ground := Go.Ground.data }, { on := 12, ground := Go.Ground.data }, { on := 13, ground := Go.Ground.data }, { on := 4, ground := Go.Ground.chain }, { on := 4, ground := Go.Ground.guard }], guard := some (4, false) }) (v := undef) rfl (by kernel_rfl) (by kernel_rfl) (by kernel_rfl) (fun _ _ _ h => h) (Or.inr ⟨by rfl, by rfl⟩) (by assumption) ?_
          try simp only [Act.put, List.setIfInBounds_toArray, List.set_cons_zero, List.set_cons_succ]
          refine wpAnyH_take (i := 15) (oi := { dst := some 131, op := Go.Op.pick (Go.Operand.tmp 120) (Go.Operand.const (Go.Value.bool true)) (Go.Operand.tmp 130), type := 4, pos := "law.go:184", after := #[{ on := 4, ground := Go.Ground.data }, { on := 14, ground := Go.Ground.data }, { on := 1, ground := Go.Ground.guard }], guard := some (1, true) }) (v := ?_) rfl (by kernel_rfl) (by kernel_rfl) (by kernel_rfl) (fun _ _ _ h => h) (Or.inl ⟨by rfl, ?_⟩) (by assumption) ?_
          rotate_left
          · (intro w hSw; (try dsimp only at hSw); go_simp); try with_reducible rfl
          try simp only [Act.put, List.setIfInBounds_toArray, List.set_cons_zero, List.set_cons_succ]
          refine wpAnyH_take (i := 16) (oi := { dst := some 132, op := Go.Op.pick (Go.Operand.tmp 117) (Go.Operand.tmp 131) (Go.Operand.const (Go.Value.bool false)), type := 4, pos := "law.go:184", after := #[{ on := 1, ground := Go.Ground.data }, { on := 15, ground := Go.Ground.data }], guard := none }) (v := ?_) rfl (by kernel_rfl) (by kernel_rfl) (by kernel_rfl) (fun _ _ _ h => h) (Or.inl ⟨by rfl, ?_⟩) (by assumption) ?_
          rotate_left
          · (intro w hSw; (try dsimp only at hSw); go_simp); try with_reducible rfl
          try simp only [Act.put, List.setIfInBounds_toArray, List.set_cons_zero, List.set_cons_succ]
          refine wpAnyH_take (i := 17) (oi := { dst := some 133, op := Go.Op.move (Go.Operand.tmp 132), type := 4, pos := "law.go:184", after := #[{ on := 16, ground := Go.Ground.data }, { on := 14, ground := Go.Ground.chain }], guard := none }) (v := ?_) rfl (by kernel_rfl) (by kernel_rfl) (by kernel_rfl) (fun _ _ _ h => h) (Or.inl ⟨by rfl, ?_⟩) (by assumption) ?_
          rotate_left
          · (intro w hSw; (try dsimp only at hSw); go_simp); try with_reducible rfl
          try simp only [Act.put, List.setIfInBounds_toArray, List.set_cons_zero, List.set_cons_succ]
          refine wpAnyH_take (i := 18) (oi := { dst := some 134, op := Go.Op.move (Go.Operand.tmp 16), type := 4, pos := "law.go:184", after := #[{ on := 17, ground := Go.Ground.guard }], guard := some (17, true) }) (v := ?_) rfl (by kernel_rfl) (by kernel_rfl) (by kernel_rfl) (fun _ _ _ h => h) (Or.inl ⟨by rfl, ?_⟩) (by assumption) ?_
          rotate_left
          · (intro w hSw; (try dsimp only at hSw); go_simp); try with_reducible rfl
          try simp only [Act.put, List.setIfInBounds_toArray, List.set_cons_zero, List.set_cons_succ]
          refine wpAnyH_take (i := 19) (oi := { dst := some 135, op := Go.Op.move (Go.Operand.tmp 134), type := 4, pos := "law.go:184", after := #[{ on := 18, ground := Go.Ground.data }, { on := 17, ground := Go.Ground.chain }, { on := 17, ground := Go.Ground.guard }], guard := some (17, true) }) (v := ?_) rfl (by kernel_rfl) (by kernel_rfl) (by kernel_rfl) (fun _ _ _ h => h) (Or.inl ⟨by rfl, ?_⟩) (by assumption) ?_
          rotate_left
          · (intro w hSw; (try dsimp only at hSw); go_simp); try with_reducible rfl
          try simp only [Act.put, List.setIfInBounds_toArray, List.set_cons_zero, List.set_cons_succ]
          refine wpAnyH_take (i := 20) (oi := { dst := some 136, op := Go.Op.move (Go.Operand.tmp 17), type := 4, pos := "law.go:184", after := #[{ on := 19, ground := Go.Ground.guard }], guard := some (19, false) }) (v := ?_) rfl (by kernel_rfl) (by kernel_rfl) (by kernel_rfl) (fun _ _ _ h => h) (Or.inl ⟨by rfl, ?_⟩) (by assumption) ?_
          rotate_left
          · (intro w hSw; (try dsimp only at hSw); go_simp); try with_reducible rfl
          try simp only [Act.put, List.setIfInBounds_toArray, List.set_cons_zero, List.set_cons_succ]
          refine wpAnyH_take (i := 21) (oi := { dst := some 137, op := Go.Op.pick (Go.Operand.tmp 135) (Go.Operand.const (Go.Value.bool true)) (Go.Operand.tmp 136), type := 4, pos := "law.go:184", after := #[{ on := 19, ground := Go.Ground.data }, { on := 20, ground := Go.Ground.data }, { on := 17, ground := Go.Ground.guard }], guard := some (17, true) }) (v := ?_) rfl (by kernel_rfl) (by kernel_rfl) (by kernel_rfl) (fun _ _ _ h => h) (Or.inl ⟨by rfl, ?_⟩) (by assumption) ?_
          rotate_left
          · (intro w hSw; (try dsimp only at hSw); go_simp); try with_reducible rfl
          try simp only [Act.put, List.setIfInBounds_toArray, List.set_cons_zero, List.set_cons_succ]
          refine wpAnyH_take (i := 22) (oi := { dst := some 138, op := Go.Op.move (Go.Operand.tmp 137), type := 4, pos := "law.go:184", after := #[{ on := 21, ground := Go.Ground.data }, { on := 19, ground := Go.Ground.chain }, { on := 17, ground := Go.Ground.guard }], guard := some (17, true) }) (v := ?_) rfl (by kernel_rfl) (by kernel_rfl) (by kernel_rfl) (fun _ _ _ h => h) (Or.inl ⟨by rfl, ?_⟩) (by assumption) ?_
          rotate_left
          · (intro w hSw; (try dsimp only at hSw); go_simp); try with_reducible rfl
          try simp only [Act.put, List.setIfInBounds_toArray, List.set_cons_zero, List.set_cons_succ]
          refine wpAnyH_take (i := 23) (oi := { dst := some 139, op := Go.Op.load 33 (Go.Operand.tmp 5), type := 33, pos := "law.go:184", after := #[{ on := 22, ground := Go.Ground.guard }], guard := some (22, false) }) (v := ?_) rfl (by kernel_rfl) (by kernel_rfl) (by kernel_rfl) (fun _ _ _ h => h) (Or.inl ⟨by rfl, ?_⟩) (by assumption) ?_
          rotate_left
          · (intro w hSw; (try dsimp only at hSw); go_simp); try with_reducible rfl
          try simp only [Act.put, List.setIfInBounds_toArray, List.set_cons_zero, List.set_cons_succ]
          refine wpAnyH_take (i := 24) (oi := { dst := some 140, op := Go.Op.move (Go.Operand.tmp 1), type := 34, pos := "law.go:184", after := #[{ on := 22, ground := Go.Ground.guard }], guard := some (22, false) }) (v := ?_) rfl (by kernel_rfl) (by kernel_rfl) (by kernel_rfl) (fun _ _ _ h => h) (Or.inl ⟨by rfl, ?_⟩) (by assumption) ?_
          rotate_left
          · (intro w hSw; (try dsimp only at hSw); go_simp); try with_reducible rfl
          try simp only [Act.put, List.setIfInBounds_toArray, List.set_cons_zero, List.set_cons_succ]
          have hbq9 := Rx5.bel (gb := w.heap.size) (r := r) (W := wq) hHeld
          refine wpAnyH_ready (rs := [25]) (by kernel_rfl) (by simp) ?_
          refine AllReadyH.cons (o := { dst := some 141, op := Go.Op.call { callee := Go.Callee.value (Go.Operand.func 29), args := #[Go.Operand.tmp 139, Go.Operand.tmp 140], argTypes := #[33, 34] }, type := 4, pos := "law.go:184", after := #[{ on := 23, ground := Go.Ground.data }, { on := 24, ground := Go.Ground.data }, { on := 22, ground := Go.Ground.chain }, { on := 22, ground := Go.Ground.guard }], guard := some (22, false) }) rfl (fun K' hK => ?_) AllReadyH.nil
          go_simp
          go_at_call 29
          with_reducible refine Calls.mono (HV.out _ hbq9) ?_
          rintro e w925 ⟨rfl, hb⟩
          try go_wp2_with fail
          refine hK.out _ _ (Rx5.go (gb := w.heap.size) (r := r) (W := wq) (by assumption) hb) (fun hHeld2 => ?_)
          clear hK K' hHeld hb hbq9
          have hHeld := hHeld2; clear hHeld2
          try simp only [Act.put, List.setIfInBounds_toArray, List.set_cons_zero, List.set_cons_succ]
          refine wpAnyH_take (i := 26) (oi := { dst := some 142, op := Go.Op.unOp Go.UnOp.not 4 (Go.Operand.tmp 141), type := 4, pos := "law.go:184", after := #[{ on := 25, ground := Go.Ground.data }, { on := 22, ground := Go.Ground.guard }], guard := some (22, false) }) (v := ?_) rfl (by kernel_rfl) (by kernel_rfl) (by kernel_rfl) (fun _ _ _ h => h) (Or.inl ⟨by rfl, ?_⟩) (by assumption) ?_
          rotate_left
          · (intro w hSw; (try dsimp only at hSw); go_simp); try with_reducible rfl
          try simp only [Act.put, List.setIfInBounds_toArray, List.set_cons_zero, List.set_cons_succ]
          refine wpAnyH_take (i := 27) (oi := { dst := some 143, op := Go.Op.pick (Go.Operand.tmp 138) (Go.Operand.const (Go.Value.bool true)) (Go.Operand.tmp 142), type := 4, pos := "law.go:184", after := #[{ on := 22, ground := Go.Ground.data }, { on := 26, ground := Go.Ground.data }, { on := 17, ground := Go.Ground.guard }], guard := some (17, true) }) (v := ?_) rfl (by kernel_rfl) (by kernel_rfl) (by kernel_rfl) (fun _ _ _ h => h) (Or.inl ⟨by rfl, ?_⟩) (by assumption) ?_
          rotate_left
          · (intro w hSw; (try dsimp only at hSw); go_simp); try with_reducible rfl
          try simp only [Act.put, List.setIfInBounds_toArray, List.set_cons_zero, List.set_cons_succ]
          refine wpAnyH_take (i := 28) (oi := { dst := some 144, op := Go.Op.move (Go.Operand.tmp 143), type := 4, pos := "law.go:184", after := #[{ on := 27, ground := Go.Ground.data }, { on := 25, ground := Go.Ground.chain }, { on := 17, ground := Go.Ground.guard }], guard := some (17, true) }) (v := ?_) rfl (by kernel_rfl) (by kernel_rfl) (by kernel_rfl) (fun _ _ _ h => h) (Or.inl ⟨by rfl, ?_⟩) (by assumption) ?_
          rotate_left
          · (intro w hSw; (try dsimp only at hSw); go_simp); try with_reducible rfl
          try simp only [Act.put, List.setIfInBounds_toArray, List.set_cons_zero, List.set_cons_succ]
          refine wpAnyH_take (i := 29) (oi := { dst := some 145, op := Go.Op.move (Go.Operand.tmp 12), type := 22, pos := "law.go:184", after := #[{ on := 28, ground := Go.Ground.guard }], guard := some (28, false) }) (v := undef) rfl (by kernel_rfl) (by kernel_rfl) (by kernel_rfl) (fun _ _ _ h => h) (Or.inr ⟨by rfl, by rfl⟩) (by assumption) ?_
          try simp only [Act.put, List.setIfInBounds_toArray, List.set_cons_zero, List.set_cons_succ]
          refine wpAnyH_take (i := 30) (oi := { dst := some 146, op := Go.Op.call { callee := Go.Callee.builtin Go.Builtin.len, args := #[Go.Operand.tmp 145], argTypes := #[22] }, type := 3, pos := "law.go:184", after := #[{ on := 29, ground := Go.Ground.data }, { on := 28, ground := Go.Ground.guard }], guard := some (28, false) }) (v := undef) rfl (by kernel_rfl) (by kernel_rfl) (by kernel_rfl) (fun _ _ _ h => h) (Or.inr ⟨by rfl, by rfl⟩) (by assumption) ?_
          try simp only [Act.put, List.setIfInBounds_toArray, List.set_cons_zero, List.set_cons_succ]
          refine wpAnyH_take (i := 31) (oi := { dst := some 147, op := Go.Op.binOp Go.BinOp.gtr 3 (Go.Operand.tmp 146) (Go.Operand.const (Go.Value.int Go.IntKind.i64 0)) 3, type := 4, pos := "law.go:184", after := #[{ on := 30, ground := Go.Ground.data }, { on := 28, ground := Go.Ground.guard }], guard := some (28, false) }) (v := undef) rfl (by kernel_rfl) (by kernel_rfl) (by kernel_rfl) (fun _ _ _ h => h) (Or.inr ⟨by rfl, by rfl⟩) (by assumption) ?_
          try simp only [Act.put, List.setIfInBounds_toArray, List.set_cons_zero, List.set_cons_succ]
          refine wpAnyH_take (i := 32) (oi := { dst := some 148, op := Go.Op.move (Go.Operand.tmp 147), type := 4, pos := "law.go:184", after := #[{ on := 31, ground := Go.Ground.data }, { on := 28, ground := Go.Ground.chain }, { on := 28, ground := Go.Ground.guard }], guard := some (28, false) }) (v := undef) rfl (by kernel_rfl) (by kernel_rfl) (by kernel_rfl) (fun _ _ _ h => h) (Or.inr ⟨by rfl, by rfl⟩) (by assumption) ?_
          try simp only [Act.put, List.setIfInBounds_toArray, List.set_cons_zero, List.set_cons_succ]
          refine wpAnyH_take (i := 33) (oi := { dst := some 149, op := Go.Op.move (Go.Operand.tmp 14), type := 22, pos := "law.go:184", after := #[{ on := 32, ground := Go.Ground.guard }], guard := some (32, true) }) (v := undef) rfl (by kernel_rfl) (by kernel_rfl) (by kernel_rfl) (fun _ _ _ h => h) (Or.inr ⟨by rfl, by rfl⟩) (by assumption) ?_
          try simp only [Act.put, List.setIfInBounds_toArray, List.set_cons_zero, List.set_cons_succ]
          refine wpAnyH_take (i := 34) (oi := { dst := some 150, op := Go.Op.call { callee := Go.Callee.builtin Go.Builtin.len, args := #[Go.Operand.tmp 149], argTypes := #[22] }, type := 3, pos := "law.go:184", after := #[{ on := 33, ground := Go.Ground.data }, { on := 32, ground := Go.Ground.guard }], guard := some (32, true) }) (v := undef) rfl (by kernel_rfl) (by kernel_rfl) (by kernel_rfl) (fun _ _ _ h => h) (Or.inr ⟨by rfl, by rfl⟩) (by assumption) ?_
          try simp only [Act.put, List.setIfInBounds_toArray, List.set_cons_zero, List.set_cons_succ]
          refine wpAnyH_take (i := 35) (oi := { dst := some 151, op := Go.Op.binOp Go.BinOp.gtr 3 (Go.Operand.tmp 150) (Go.Operand.const (Go.Value.int Go.IntKind.i64 0)) 3, type := 4, pos := "law.go:184", after := #[{ on := 34, ground := Go.Ground.data }, { on := 32, ground := Go.Ground.guard }], guard := some (32, true) }) (v := undef) rfl (by kernel_rfl) (by kernel_rfl) (by kernel_rfl) (fun _ _ _ h => h) (Or.inr ⟨by rfl, by rfl⟩) (by assumption) ?_
          try simp only [Act.put, List.setIfInBounds_toArray, List.set_cons_zero, List.set_cons_succ]
          refine wpAnyH_take (i := 36) (oi := { dst := some 152, op := Go.Op.pick (Go.Operand.tmp 148) (Go.Operand.tmp 151) (Go.Operand.const (Go.Value.bool false)), type := 4, pos := "law.go:184", after := #[{ on := 32, ground := Go.Ground.data }, { on := 35, ground := Go.Ground.data }, { on := 28, ground := Go.Ground.guard }], guard := some (28, false) }) (v := undef) rfl (by kernel_rfl) (by kernel_rfl) (by kernel_rfl) (fun _ _ _ h => h) (Or.inr ⟨by rfl, by rfl⟩) (by assumption) ?_
          try simp only [Act.put, List.setIfInBounds_toArray, List.set_cons_zero, List.set_cons_succ]
          refine wpAnyH_take (i := 37) (oi := { dst := some 153, op := Go.Op.pick (Go.Operand.tmp 144) (Go.Operand.const (Go.Value.bool true)) (Go.Operand.tmp 152), type := 4, pos := "law.go:184", after := #[{ on := 28, ground := Go.Ground.data }, { on := 36, ground := Go.Ground.data }, { on := 17, ground := Go.Ground.guard }], guard := some (17, true) }) (v := ?_) rfl (by kernel_rfl) (by kernel_rfl) (by kernel_rfl) (fun _ _ _ h => h) (Or.inl ⟨by rfl, ?_⟩) (by assumption) ?_
          rotate_left
          · (intro w hSw; (try dsimp only at hSw); go_simp); try with_reducible rfl
          try simp only [Act.put, List.setIfInBounds_toArray, List.set_cons_zero, List.set_cons_succ]
          refine wpAnyH_take (i := 38) (oi := { dst := some 154, op := Go.Op.pick (Go.Operand.tmp 133) (Go.Operand.tmp 153) (Go.Operand.const (Go.Value.bool false)), type := 4, pos := "law.go:184", after := #[{ on := 17, ground := Go.Ground.data }, { on := 37, ground := Go.Ground.data }], guard := none }) (v := ?_) rfl (by kernel_rfl) (by kernel_rfl) (by kernel_rfl) (fun _ _ _ h => h) (Or.inl ⟨by rfl, ?_⟩) (by assumption) ?_
          rotate_left
          · (intro w hSw; (try dsimp only at hSw); go_simp); try with_reducible rfl
          try simp only [Act.put, List.setIfInBounds_toArray, List.set_cons_zero, List.set_cons_succ]
          refine wpAnyH_take (i := 39) (oi := { dst := some 10, op := Go.Op.assign (Go.Operand.tmp 154), type := 4, pos := "law.go:184", after := #[{ on := 38, ground := Go.Ground.data }, { on := 32, ground := Go.Ground.chain }, { on := 0, ground := Go.Ground.phase }, { on := 1, ground := Go.Ground.phase }, { on := 2, ground := Go.Ground.phase }, { on := 3, ground := Go.Ground.phase }, { on := 4, ground := Go.Ground.phase }, { on := 5, ground := Go.Ground.phase }, { on := 6, ground := Go.Ground.phase }, { on := 7, ground := Go.Ground.phase }, { on := 8, ground := Go.Ground.phase }, { on := 9, ground := Go.Ground.phase }, { on := 10, ground := Go.Ground.phase }, { on := 11, ground := Go.Ground.phase }, { on := 12, ground := Go.Ground.phase }, { on := 13, ground := Go.Ground.phase }, { on := 14, ground := Go.Ground.phase }, { on := 15, ground := Go.Ground.phase }, { on := 16, ground := Go.Ground.phase }, { on := 17, ground := Go.Ground.phase }, { on := 18, ground := Go.Ground.phase }, { on := 19, ground := Go.Ground.phase }, { on := 20, ground := Go.Ground.phase }, { on := 21, ground := Go.Ground.phase }, { on := 22, ground := Go.Ground.phase }, { on := 23, ground := Go.Ground.phase }, { on := 24, ground := Go.Ground.phase }, { on := 25, ground := Go.Ground.phase }, { on := 26, ground := Go.Ground.phase }, { on := 27, ground := Go.Ground.phase }, { on := 28, ground := Go.Ground.phase }, { on := 29, ground := Go.Ground.phase }, { on := 30, ground := Go.Ground.phase }, { on := 31, ground := Go.Ground.phase }, { on := 32, ground := Go.Ground.phase }, { on := 33, ground := Go.Ground.phase }, { on := 34, ground := Go.Ground.phase }, { on := 35, ground := Go.Ground.phase }, { on := 36, ground := Go.Ground.phase }, { on := 37, ground := Go.Ground.phase }, { on := 38, ground := Go.Ground.phase }], guard := none }) (v := ?_) rfl (by kernel_rfl) (by kernel_rfl) (by kernel_rfl) (fun _ _ _ h => h) (Or.inl ⟨by rfl, ?_⟩) (by assumption) ?_
          rotate_left
          · (intro w hSw; (try dsimp only at hSw); go_simp); try with_reducible rfl
          try simp only [Act.put, List.setIfInBounds_toArray, List.set_cons_zero, List.set_cons_succ]
          refine wpAnyH_done (by kernel_rfl) ?_ _
          have hbq := Lib.hid (K.out.b.trans ((Rx5.bel (gb := w.heap.size) (r := r) (W := wq) hHeld).mono K.out.b.size))
          clear hHeld
          go_wp2_with fail
          go_ret
          exact ⟨rfl, hbq.out⟩
        | true =>
          obtain ⟨hp1, hp2⟩ := HLN.out rfl rfl rfl
          have hp3 : decide ((0 : Int) < (nS : Int)) = true := decide_eq_true (by omega)
          have hp4 : decide ((0 : Int) < (nM : Int)) = true := decide_eq_true (by omega)
          have hp5 : decide (0 < nS) = true := decide_eq_true hp1
          have hp6 : decide (0 < nM) = true := decide_eq_true hp2
          clear hp1 hp2
          refine wp_region_held_drew (S := fun w' => w'.cell? ⟨w.heap.size, 0, none⟩ = some (.int .i64 r.X0) ∧ w'.cell? ⟨w.heap.size, 1, none⟩ = some (.int .i64 r.Y0) ∧ w'.cell? ⟨w.heap.size, 2, none⟩ = some (.int .i64 r.X1) ∧ w'.cell? ⟨w.heap.size, 3, none⟩ = some (.int .i64 r.Y1) ∧ w.heap.size < w'.heap.size ∧ Hid (Below wq.heap.size wq w')) (by kernel_rfl) ?_ (fun hHeld => ?_)
          · exact Rx5.drewN E1.out 1
          refine wpAnyH_take (i := 0) (oi := { dst := some 116, op := Go.Op.move (Go.Operand.tmp 11), type := 4, pos := "law.go:184", after := #[], guard := none }) (v := ?_) rfl (by kernel_rfl) (by kernel_rfl) (by kernel_rfl) (fun _ _ _ h => h) (Or.inl ⟨by rfl, ?_⟩) (by assumption) ?_
          rotate_left
          · (intro w hSw; (try dsimp only at hSw); go_simp); try with_reducible rfl
          try simp only [Act.put, List.setIfInBounds_toArray, List.set_cons_zero, List.set_cons_succ]
          refine wpAnyH_take (i := 1) (oi := { dst := some 117, op := Go.Op.move (Go.Operand.tmp 116), type := 4, pos := "law.go:184", after := #[{ on := 0, ground := Go.Ground.data }], guard := none }) (v := ?_) rfl (by kernel_rfl) (by kernel_rfl) (by kernel_rfl) (fun _ _ _ h => h) (Or.inl ⟨by rfl, ?_⟩) (by assumption) ?_
          rotate_left
          · (intro w hSw; (try dsimp only at hSw); go_simp); try with_reducible rfl
          try simp only [Act.put, List.setIfInBounds_toArray, List.set_cons_zero, List.set_cons_succ]
          refine wpAnyH_take (i := 2) (oi := { dst := some 118, op := Go.Op.move (Go.Operand.tmp 16), type := 4, pos := "law.go:184", after := #[{ on := 1, ground := Go.Ground.guard }], guard := some (1, true) }) (v := ?_) rfl (by kernel_rfl) (by kernel_rfl) (by kernel_rfl) (fun _ _ _ h => h) (Or.inl ⟨by rfl, ?_⟩) (by assumption) ?_
          rotate_left
          · (intro w hSw; (try dsimp only at hSw); go_simp); try with_reducible rfl
          try simp only [Act.put, List.setIfInBounds_toArray, List.set_cons_zero, List.set_cons_succ]
          refine wpAnyH_take (i := 3) (oi := { dst := some 119, op := Go.Op.unOp Go.UnOp.not 4 (Go.Operand.tmp 118), type := 4, pos := "law.go:184", after := #[{ on := 2, ground := Go.Ground.data }, { on := 1, ground := Go.Ground.guard }], guard := some (1, true) }) (v := ?_) rfl (by kernel_rfl) (by kernel_rfl) (by kernel_rfl) (fun _ _ _ h => h) (Or.inl ⟨by rfl, ?_⟩) (by assumption) ?_
          rotate_left
          · (intro w hSw; (try dsimp only at hSw); go_simp); try with_reducible rfl
          try simp only [Act.put, List.setIfInBounds_toArray, List.set_cons_zero, List.set_cons_succ]
          refine wpAnyH_take (i := 4) (oi := { dst := some 120, op := Go.Op.move (Go.Operand.tmp 119), type := 4, pos := "law.go:184", after := #[{ on := 3, ground := Go.Ground.data }, { on := 1, ground := Go.Ground.chain }, { on := 1, ground := Go.Ground.guard }], guard := some (1, true) }) (v := ?_) rfl (by kernel_rfl) (by kernel_rfl) (by kernel_rfl) (fun _ _ _ h => h) (Or.inl ⟨by rfl, ?_⟩) (by assumption) ?_
          rotate_left
          · (intro w hSw; (try dsimp only at hSw); go_simp); try with_reducible rfl
          try simp only [Act.put, List.setIfInBounds_toArray, List.set_cons_zero, List.set_cons_succ]
          refine wpAnyH_take (i := 5) (oi := { dst := some 121, op := Go.Op.load 33 (Go.Operand.tmp 5), type := 33, pos := "law.go:184", after := #[{ on := 4, ground := Go.Ground.guard }], guard := some (4, false) }) (v := undef) rfl (by kernel_rfl) (by kernel_rfl) (by kernel_rfl) (fun _ _ _ h => h) (Or.inr ⟨by rfl, by rfl⟩) (by assumption) ?_
          try simp only [Act.put, List.setIfInBounds_toArray, List.set_cons_zero, List.set_cons_succ]
          refine wpAnyH_take (i := 6) (oi := { dst := some 122, op := Go.Op.move (Go.Operand.tmp 1), type := 34, pos := "law.go:184", after := #[{ on := 4, ground := Go.Ground.guard }], guard := some (4, false) }) (v := undef) rfl (by kernel_rfl) (by kernel_rfl) (by kernel_rfl) (fun _ _ _ h => h) (Or.inr ⟨by rfl, by rfl⟩) (by assumption) ?_
          try simp only [Act.put, List.setIfInBounds_toArray, List.set_cons_zero, List.set_cons_succ]
          refine wpAnyH_take (i := 7) (oi := { dst := some 123, op := Go.Op.move (Go.Operand.tmp 4), type := 3, pos := "law.go:184", after := #[{ on := 4, ground := Go.Ground.guard }], guard := some (4, false) }) (v := undef) rfl (by kernel_rfl) (by kernel_rfl) (by kernel_rfl) (fun _ _ _ h => h) (Or.inr ⟨by rfl, by rfl⟩) (by assumption) ?_
          try simp only [Act.put, List.setIfInBounds_toArray, List.set_cons_zero, List.set_cons_succ]
          refine wpAnyH_take (i := 8) (oi := { dst := some 124, op := Go.Op.move (Go.Operand.tmp 1), type := 34, pos := "law.go:184", after := #[{ on := 4, ground := Go.Ground.guard }], guard := some (4, false) }) (v := undef) rfl (by kernel_rfl) (by kernel_rfl) (by kernel_rfl) (fun _ _ _ h => h) (Or.inr ⟨by rfl, by rfl⟩) (by assumption) ?_
          try simp only [Act.put, List.setIfInBounds_toArray, List.set_cons_zero, List.set_cons_succ]
          refine wpAnyH_take (i := 9) (oi := { dst := some 125, op := Go.Op.call { callee := Go.Callee.builtin Go.Builtin.len, args := #[Go.Operand.tmp 124], argTypes := #[34] }, type := 3, pos := "law.go:184", after := #[{ on := 8, ground := Go.Ground.data }, { on := 4, ground := Go.Ground.guard }], guard := some (4, false) }) (v := undef) rfl (by kernel_rfl) (by kernel_rfl) (by kernel_rfl) (fun _ _ _ h => h) (Or.inr ⟨by rfl, by rfl⟩) (by assumption) ?_
          try simp only [Act.put, List.setIfInBounds_toArray, List.set_cons_zero, List.set_cons_succ]
          refine wpAnyH_take (i := 10) (oi := { dst := some 126, op := Go.Op.call { callee := Go.Callee.builtin Go.Builtin.min, args := #[Go.Operand.tmp 123, Go.Operand.tmp 125], argTypes := #[3, 3] }, type := 3, pos := "law.go:184", after := #[{ on := 7, ground := Go.Ground.data }, { on := 9, ground := Go.Ground.data }, { on := 4, ground := Go.Ground.guard }], guard := some (4, false) }) (v := undef) rfl (by kernel_rfl) (by kernel_rfl) (by kernel_rfl) (fun _ _ _ h => h) (Or.inr ⟨by rfl, by rfl⟩) (by assumption) ?_
          try simp only [Act.put, List.setIfInBounds_toArray, List.set_cons_zero, List.set_cons_succ]
          refine wpAnyH_take (i := 11) (oi := { dst := some 127, op := Go.Op.call { callee := Go.Callee.builtin Go.Builtin.max, args := #[Go.Operand.const (Go.Value.int Go.IntKind.i64 0), Go.Operand.tmp 126], argTypes := #[3, 3] }, type := 3, pos := "law.go:184", after := #[{ on := 10, ground := Go.Ground.data }, { on := 4, ground := Go.Ground.guard }], guard := some (4, false) }) (v := undef) rfl (by kernel_rfl) (by kernel_rfl) (by kernel_rfl) (fun _ _ _ h => h) (Or.inr ⟨by rfl, by rfl⟩) (by assumption) ?_
          try simp only [Act.put, List.setIfInBounds_toArray, List.set_cons_zero, List.set_cons_succ]
          refine wpAnyH_take (i := 12) (oi := { dst := some 128, op := Go.Op.slice 34 (Go.Operand.tmp 122) none (some (Go.Operand.tmp 127)) none, type := 34, pos := "law.go:184", after := #[{ on := 6, ground := Go.Ground.data }, { on := 11, ground := Go.Ground.data }, { on := 4, ground := Go.Ground.guard }], guard := some (4, false) }) (v := undef) rfl (by kernel_rfl) (by kernel_rfl) (by kernel_rfl) (fun _ _ _ h => h) (Or.inr ⟨by rfl, by rfl⟩) (by assumption) ?_
          try simp only [Act.put, List.setIfInBounds_toArray, List.set_cons_zero, List.set_cons_succ]
          refine wpAnyH_take (i := 13) (oi := { dst := some 129, op := Go.Op.move (Go.Operand.tmp 12), type := 22, pos := "law.go:184", after := #[{ on := 4, ground := Go.Ground.guard }], guard := some (4, false) }) (v := undef) rfl (by kernel_rfl) (by kernel_rfl) (by kernel_rfl) (fun _ _ _ h => h) (Or.inr ⟨by rfl, by rfl⟩) (by assumption) ?_
          try simp only [Act.put, List.setIfInBounds_toArray, List.set_cons_zero, List.set_cons_succ]
          refine wpAnyH_take (i := 14) (oi := { dst := some 130, op := Go.Op.call { callee := Go.Callee.value (Go.Operand.func 21), args := #[Go.Operand.tmp 121, Go.Operand.tmp 128, Go.Operand.tmp 129], argTypes := #[33, 34, 22] }, type := 4, pos := "law.go:184", after := #[{ on := 5, ground := Go.Ground.data }, { on := 12, ground := Go.Ground.data }, { on := 13, ground := Go.Ground.data }, { on := 4, ground := Go.Ground.chain }, { on := 4, ground := Go.Ground.guard }], guard := some (4, false) }) (v := undef) rfl (by kernel_rfl) (by kernel_rfl) (by kernel_rfl) (fun _ _ _ h => h) (Or.inr ⟨by rfl, by rfl⟩) (by assumption) ?_
          try simp only [Act.put, List.setIfInBounds_toArray, List.set_cons_zero, List.set_cons_succ]
          refine wpAnyH_take (i := 15) (oi := { dst := some 131, op := Go.Op.pick (Go.Operand.tmp 120) (Go.Operand.const (Go.Value.bool true)) (Go.Operand.tmp 130), type := 4, pos := "law.go:184", after := #[{ on := 4, ground := Go.Ground.data }, { on := 14, ground := Go.Ground.data }, { on := 1, ground := Go.Ground.guard }], guard := some (1, true) }) (v := ?_) rfl (by kernel_rfl) (by kernel_rfl) (by kernel_rfl) (fun _ _ _ h => h) (Or.inl ⟨by rfl, ?_⟩) (by assumption) ?_
          rotate_left
          · (intro w hSw; (try dsimp only at hSw); go_simp); try with_reducible rfl
          try simp only [Act.put, List.setIfInBounds_toArray, List.set_cons_zero, List.set_cons_succ]
          refine wpAnyH_take (i := 16) (oi := { dst := some 132, op := Go.Op.pick (Go.Operand.tmp 117) (Go.Operand.tmp 131) (Go.Operand.const (Go.Value.bool false)), type := 4, pos := "law.go:184", after := #[{ on := 1, ground := Go.Ground.data }, { on := 15, ground := Go.Ground.data }], guard := none }) (v := ?_) rfl (by kernel_rfl) (by kernel_rfl) (by kernel_rfl) (fun _ _ _ h => h) (Or.inl ⟨by rfl, ?_⟩) (by assumption) ?_
          rotate_left
          · (intro w hSw; (try dsimp only at hSw); go_simp); try with_reducible rfl
          try simp only [Act.put, List.setIfInBounds_toArray, List.set_cons_zero, List.set_cons_succ]
          refine wpAnyH_take (i := 17) (oi := { dst := some 133, op := Go.Op.move (Go.Operand.tmp 132), type := 4, pos := "law.go:184", after := #[{ on := 16, ground := Go.Ground.data }, { on := 14, ground := Go.Ground.chain }], guard := none }) (v := ?_) rfl (by kernel_rfl) (by kernel_rfl) (by kernel_rfl) (fun _ _ _ h => h) (Or.inl ⟨by rfl, ?_⟩) (by assumption) ?_
          rotate_left
          · (intro w hSw; (try dsimp only at hSw); go_simp); try with_reducible rfl
          try simp only [Act.put, List.setIfInBounds_toArray, List.set_cons_zero, List.set_cons_succ]
          refine wpAnyH_take (i := 18) (oi := { dst := some 134, op := Go.Op.move (Go.Operand.tmp 16), type := 4, pos := "law.go:184", after := #[{ on := 17, ground := Go.Ground.guard }], guard := some (17, true) }) (v := ?_) rfl (by kernel_rfl) (by kernel_rfl) (by kernel_rfl) (fun _ _ _ h => h) (Or.inl ⟨by rfl, ?_⟩) (by assumption) ?_
          rotate_left
          · (intro w hSw; (try dsimp only at hSw); go_simp); try with_reducible rfl
          try simp only [Act.put, List.setIfInBounds_toArray, List.set_cons_zero, List.set_cons_succ]
          refine wpAnyH_take (i := 19) (oi := { dst := some 135, op := Go.Op.move (Go.Operand.tmp 134), type := 4, pos := "law.go:184", after := #[{ on := 18, ground := Go.Ground.data }, { on := 17, ground := Go.Ground.chain }, { on := 17, ground := Go.Ground.guard }], guard := some (17, true) }) (v := ?_) rfl (by kernel_rfl) (by kernel_rfl) (by kernel_rfl) (fun _ _ _ h => h) (Or.inl ⟨by rfl, ?_⟩) (by assumption) ?_
          rotate_left
          · (intro w hSw; (try dsimp only at hSw); go_simp); try with_reducible rfl
          try simp only [Act.put, List.setIfInBounds_toArray, List.set_cons_zero, List.set_cons_succ]
          refine wpAnyH_take (i := 20) (oi := { dst := some 136, op := Go.Op.move (Go.Operand.tmp 17), type := 4, pos := "law.go:184", after := #[{ on := 19, ground := Go.Ground.guard }], guard := some (19, false) }) (v := ?_) rfl (by kernel_rfl) (by kernel_rfl) (by kernel_rfl) (fun _ _ _ h => h) (Or.inl ⟨by rfl, ?_⟩) (by assumption) ?_
          rotate_left
          · (intro w hSw; (try dsimp only at hSw); go_simp); try with_reducible rfl
          try simp only [Act.put, List.setIfInBounds_toArray, List.set_cons_zero, List.set_cons_succ]
          refine wpAnyH_take (i := 21) (oi := { dst := some 137, op := Go.Op.pick (Go.Operand.tmp 135) (Go.Operand.const (Go.Value.bool true)) (Go.Operand.tmp 136), type := 4, pos := "law.go:184", after := #[{ on := 19, ground := Go.Ground.data }, { on := 20, ground := Go.Ground.data }, { on := 17, ground := Go.Ground.guard }], guard := some (17, true) }) (v := ?_) rfl (by kernel_rfl) (by kernel_rfl) (by kernel_rfl) (fun _ _ _ h => h) (Or.inl ⟨by rfl, ?_⟩) (by assumption) ?_
          rotate_left
          · (intro w hSw; (try dsimp only at hSw); go_simp); try with_reducible rfl
          try simp only [Act.put, List.setIfInBounds_toArray, List.set_cons_zero, List.set_cons_succ]
          refine wpAnyH_take (i := 22) (oi := { dst := some 138, op := Go.Op.move (Go.Operand.tmp 137), type := 4, pos := "law.go:184", after := #[{ on := 21, ground := Go.Ground.data }, { on := 19, ground := Go.Ground.chain }, { on := 17, ground := Go.Ground.guard }], guard := some (17, true) }) (v := ?_) rfl (by kernel_rfl) (by kernel_rfl) (by kernel_rfl) (fun _ _ _ h => h) (Or.inl ⟨by rfl, ?_⟩) (by assumption) ?_
          rotate_left
          · (intro w hSw; (try dsimp only at hSw); go_simp); try with_reducible rfl
          try simp only [Act.put, List.setIfInBounds_toArray, List.set_cons_zero, List.set_cons_succ]
          refine wpAnyH_take (i := 23) (oi := { dst := some 139, op := Go.Op.load 33 (Go.Operand.tmp 5), type := 33, pos := "law.go:184", after := #[{ on := 22, ground := Go.Ground.guard }], guard := some (22, false) }) (v := ?_) rfl (by kernel_rfl) (by kernel_rfl) (by kernel_rfl) (fun _ _ _ h => h) (Or.inl ⟨by rfl, ?_⟩) (by assumption) ?_
          rotate_left
          · (intro w hSw; (try dsimp only at hSw); go_simp); try with_reducible rfl
          try simp only [Act.put, List.setIfInBounds_toArray, List.set_cons_zero, List.set_cons_succ]
          refine wpAnyH_take (i := 24) (oi := { dst := some 140, op := Go.Op.move (Go.Operand.tmp 1), type := 34, pos := "law.go:184", after := #[{ on := 22, ground := Go.Ground.guard }], guard := some (22, false) }) (v := ?_) rfl (by kernel_rfl) (by kernel_rfl) (by kernel_rfl) (fun _ _ _ h => h) (Or.inl ⟨by rfl, ?_⟩) (by assumption) ?_
          rotate_left
          · (intro w hSw; (try dsimp only at hSw); go_simp); try with_reducible rfl
          try simp only [Act.put, List.setIfInBounds_toArray, List.set_cons_zero, List.set_cons_succ]
          have hbq9 := Rx5.bel (gb := w.heap.size) (r := r) (W := wq) hHeld
          refine wpAnyH_ready (rs := [25]) (by kernel_rfl) (by simp) ?_
          refine AllReadyH.cons (o := { dst := some 141, op := Go.Op.call { callee := Go.Callee.value (Go.Operand.func 29), args := #[Go.Operand.tmp 139, Go.Operand.tmp 140], argTypes := #[33, 34] }, type := 4, pos := "law.go:184", after := #[{ on := 23, ground := Go.Ground.data }, { on := 24, ground := Go.Ground.data }, { on := 22, ground := Go.Ground.chain }, { on := 22, ground := Go.Ground.guard }], guard := some (22, false) }) rfl (fun K' hK => ?_) AllReadyH.nil
          go_simp
          go_at_call 29
          with_reducible refine Calls.mono (HV.out _ hbq9) ?_
          rintro e w925 ⟨rfl, hb⟩
          try go_wp2_with fail
          refine hK.out _ _ (Rx5.go (gb := w.heap.size) (r := r) (W := wq) (by assumption) hb) (fun hHeld2 => ?_)
          clear hK K' hHeld hb hbq9
          have hHeld := hHeld2; clear hHeld2
          try simp only [Act.put, List.setIfInBounds_toArray, List.set_cons_zero, List.set_cons_succ]
          refine wpAnyH_take (i := 26) (oi := { dst := some 142, op := Go.Op.unOp Go.UnOp.not 4 (Go.Operand.tmp 141), type := 4, pos := "law.go:184", after := #[{ on := 25, ground := Go.Ground.data }, { on := 22, ground := Go.Ground.guard }], guard := some (22, false) }) (v := ?_) rfl (by kernel_rfl) (by kernel_rfl) (by kernel_rfl) (fun _ _ _ h => h) (Or.inl ⟨by rfl, ?_⟩) (by assumption) ?_
          rotate_left
          · (intro w hSw; (try dsimp only at hSw); go_simp); try with_reducible rfl
          try simp only [Act.put, List.setIfInBounds_toArray, List.set_cons_zero, List.set_cons_succ]
          refine wpAnyH_take (i := 27) (oi := { dst := some 143, op := Go.Op.pick (Go.Operand.tmp 138) (Go.Operand.const (Go.Value.bool true)) (Go.Operand.tmp 142), type := 4, pos := "law.go:184", after := #[{ on := 22, ground := Go.Ground.data }, { on := 26, ground := Go.Ground.data }, { on := 17, ground := Go.Ground.guard }], guard := some (17, true) }) (v := ?_) rfl (by kernel_rfl) (by kernel_rfl) (by kernel_rfl) (fun _ _ _ h => h) (Or.inl ⟨by rfl, ?_⟩) (by assumption) ?_
          rotate_left
          · (intro w hSw; (try dsimp only at hSw); go_simp); try with_reducible rfl
          try simp only [Act.put, List.setIfInBounds_toArray, List.set_cons_zero, List.set_cons_succ]
          refine wpAnyH_take (i := 28) (oi := { dst := some 144, op := Go.Op.move (Go.Operand.tmp 143), type := 4, pos := "law.go:184", after := #[{ on := 27, ground := Go.Ground.data }, { on := 25, ground := Go.Ground.chain }, { on := 17, ground := Go.Ground.guard }], guard := some (17, true) }) (v := ?_) rfl (by kernel_rfl) (by kernel_rfl) (by kernel_rfl) (fun _ _ _ h => h) (Or.inl ⟨by rfl, ?_⟩) (by assumption) ?_
          rotate_left
          · (intro w hSw; (try dsimp only at hSw); go_simp); try with_reducible rfl
          try simp only [Act.put, List.setIfInBounds_toArray, List.set_cons_zero, List.set_cons_succ]
          refine wpAnyH_take (i := 29) (oi := { dst := some 145, op := Go.Op.move (Go.Operand.tmp 12), type := 22, pos := "law.go:184", after := #[{ on := 28, ground := Go.Ground.guard }], guard := some (28, false) }) (v := ?_) rfl (by kernel_rfl) (by kernel_rfl) (by kernel_rfl) (fun _ _ _ h => h) (Or.inl ⟨by rfl, ?_⟩) (by assumption) ?_
          rotate_left
          · (intro w hSw; (try dsimp only at hSw); go_simp); try with_reducible rfl
          try simp only [Act.put, List.setIfInBounds_toArray, List.set_cons_zero, List.set_cons_succ]
          refine wpAnyH_take (i := 30) (oi := { dst := some 146, op := Go.Op.call { callee := Go.Callee.builtin Go.Builtin.len, args := #[Go.Operand.tmp 145], argTypes := #[22] }, type := 3, pos := "law.go:184", after := #[{ on := 29, ground := Go.Ground.data }, { on := 28, ground := Go.Ground.guard }], guard := some (28, false) }) (v := ?_) rfl (by kernel_rfl) (by kernel_rfl) (by kernel_rfl) (fun _ _ _ h => h) (Or.inl ⟨by rfl, ?_⟩) (by assumption) ?_
          rotate_left
          · (intro w hSw; (try dsimp only at hSw); go_simp); try with_reducible rfl
          try simp only [Act.put, List.setIfInBounds_toArray, List.set_cons_zero, List.set_cons_succ]
          refine wpAnyH_take (i := 31) (oi := { dst := some 147, op := Go.Op.binOp Go.BinOp.gtr 3 (Go.Operand.tmp 146) (Go.Operand.const (Go.Value.int Go.IntKind.i64 0)) 3, type := 4, pos := "law.go:184", after := #[{ on := 30, ground := Go.Ground.data }, { on := 28, ground := Go.Ground.guard }], guard := some (28, false) }) (v := ?_) rfl (by kernel_rfl) (by kernel_rfl) (by kernel_rfl) (fun _ _ _ h => h) (Or.inl ⟨by rfl, ?_⟩) (by assumption) ?_
          rotate_left
          · (intro w hSw; (try dsimp only at hSw); go_simp); try with_reducible rfl
          try simp only [Act.put, List.setIfInBounds_toArray, List.set_cons_zero, List.set_cons_succ]
          refine wpAnyH_take (i := 32) (oi := { dst := some 148, op := Go.Op.move (Go.Operand.tmp 147), type := 4, pos := "law.go:184", after := #[{ on := 31, ground := Go.Ground.data }, { on := 28, ground := Go.Ground.chain }, { on := 28, ground := Go.Ground.guard }], guard := some (28, false) }) (v := ?_) rfl (by kernel_rfl) (by kernel_rfl) (by kernel_rfl) (fun _ _ _ h => h) (Or.inl ⟨by rfl, ?_⟩) (by assumption) ?_
          rotate_left
          · (intro w hSw; (try dsimp only at hSw); go_simp); try with_reducible rfl
          try simp only [Act.put, List.setIfInBounds_toArray, List.set_cons_zero, List.set_cons_succ]
          refine wpAnyH_take (i := 33) (oi := { dst := some 149, op := Go.Op.move (Go.Operand.tmp 14), type := 22, pos := "law.go:184", after := #[{ on := 32, ground := Go.Ground.guard }], guard := some (32, true) }) (v := ?_) rfl (by kernel_rfl) (by kernel_rfl) (by kernel_rfl) (fun _ _ _ h => h) (Or.inl ⟨by rfl, ?_⟩) (by assumption) ?_
          rotate_left
          · (intro w hSw; (try dsimp only at hSw); go_simp); try with_reducible rfl
          try simp only [Act.put, List.setIfInBounds_toArray, List.set_cons_zero, List.set_cons_succ]
          refine wpAnyH_take (i := 34) (oi := { dst := some 150, op := Go.Op.call { callee := Go.Callee.builtin Go.Builtin.len, args := #[Go.Operand.tmp 149], argTypes := #[22] }, type := 3, pos := "law.go:184", after := #[{ on := 33, ground := Go.Ground.data }, { on := 32, ground := Go.Ground.guard }], guard := some (32, true) }) (v := ?_) rfl (by kernel_rfl) (by kernel_rfl) (by kernel_rfl) (fun _ _ _ h => h) (Or.inl ⟨by rfl, ?_⟩) (by assumption) ?_
          rotate_left
          · (intro w hSw; (try dsimp only at hSw); go_simp); try with_reducible rfl
          try simp only [Act.put, List.setIfInBounds_toArray, List.set_cons_zero, List.set_cons_succ]
          refine wpAnyH_take (i := 35) (oi := { dst := some 151, op := Go.Op.binOp Go.BinOp.gtr 3 (Go.Operand.tmp 150) (Go.Operand.const (Go.Value.int Go.IntKind.i64 0)) 3, type := 4, pos := "law.go:184", after := #[{ on := 34, ground := Go.Ground.data }, { on := 32, ground := Go.Ground.guard }], guard := some (32, true) }) (v := ?_) rfl (by kernel_rfl) (by kernel_rfl) (by kernel_rfl) (fun _ _ _ h => h) (Or.inl ⟨by rfl, ?_⟩) (by assumption) ?_
          rotate_left
          · (intro w hSw; (try dsimp only at hSw); go_simp); try with_reducible rfl
          try simp only [Act.put, List.setIfInBounds_toArray, List.set_cons_zero, List.set_cons_succ]
          refine wpAnyH_take (i := 36) (oi := { dst := some 152, op := Go.Op.pick (Go.Operand.tmp 148) (Go.Operand.tmp 151) (Go.Operand.const (Go.Value.bool false)), type := 4, pos := "law.go:184", after := #[{ on := 32, ground := Go.Ground.data }, { on := 35, ground := Go.Ground.data }, { on := 28, ground := Go.Ground.guard }], guard := some (28, false) }) (v := ?_) rfl (by kernel_rfl) (by kernel_rfl) (by kernel_rfl) (fun _ _ _ h => h) (Or.inl ⟨by rfl, ?_⟩) (by assumption) ?_
          rotate_left
          · (intro w hSw; (try dsimp only at hSw); go_simp); try with_reducible rfl
          try simp only [Act.put, List.setIfInBounds_toArray, List.set_cons_zero, List.set_cons_succ]
          refine wpAnyH_take (i := 37) (oi := { dst := some 153, op := Go.Op.pick (Go.Operand.tmp 144) (Go.Operand.const (Go.Value.bool true)) (Go.Operand.tmp 152), type := 4, pos := "law.go:184", after := #[{ on := 28, ground := Go.Ground.data }, { on := 36, ground := Go.Ground.data }, { on := 17, ground := Go.Ground.guard }], guard := some (17, true) }) (v := ?_) rfl (by kernel_rfl) (by kernel_rfl) (by kernel_rfl) (fun _ _ _ h => h) (Or.inl ⟨by rfl, ?_⟩) (by assumption) ?_
          rotate_left
          · (intro w hSw; (try dsimp only at hSw); go_simp); try with_reducible rfl
          try simp only [Act.put, List.setIfInBounds_toArray, List.set_cons_zero, List.set_cons_succ]
          refine wpAnyH_take (i := 38) (oi := { dst := some 154, op := Go.Op.pick (Go.Operand.tmp 133) (Go.Operand.tmp 153) (Go.Operand.const (Go.Value.bool false)), type := 4, pos := "law.go:184", after := #[{ on := 17, ground := Go.Ground.data }, { on := 37, ground := Go.Ground.data }], guard := none }) (v := ?_) rfl (by kernel_rfl) (by kernel_rfl) (by kernel_rfl) (fun _ _ _ h => h) (Or.inl ⟨by rfl, ?_⟩) (by assumption) ?_
          rotate_left
          · (intro w hSw; (try dsimp only at hSw); go_simp); try with_reducible rfl
          try simp only [Act.put, List.setIfInBounds_toArray, List.set_cons_zero, List.set_cons_succ]
          refine wpAnyH_take (i := 39) (oi := { dst := some 10, op := Go.Op.assign (Go.Operand.tmp 154), type := 4, pos := "law.go:184", after := #[{ on := 38, ground := Go.Ground.data }, { on := 32, ground := Go.Ground.chain }, { on := 0, ground := Go.Ground.phase }, { on := 1, ground := Go.Ground.phase }, { on := 2, ground := Go.Ground.phase }, { on := 3, ground := Go.Ground.phase }, { on := 4, ground := Go.Ground.phase }, { on := 5, ground := Go.Ground.phase }, { on := 6, ground := Go.Ground.phase }, { on := 7, ground := Go.Ground.phase }, { on := 8, ground := Go.Ground.phase }, { on := 9, ground := Go.Ground.phase }, { on := 10, ground := Go.Ground.phase }, { on := 11, ground := Go.Ground.phase }, { on := 12, ground := Go.Ground.phase }, { on := 13, ground := Go.Ground.phase }, { on := 14, ground := Go.Ground.phase }, { on := 15, ground := Go.Ground.phase }, { on := 16, ground := Go.Ground.phase }, { on := 17, ground := Go.Ground.phase }, { on := 18, ground := Go.Ground.phase }, { on := 19, ground := Go.Ground.phase }, { on := 20, ground := Go.Ground.phase }, { on := 21, ground := Go.Ground.phase }, { on := 22, ground := Go.Ground.phase }, { on := 23, ground := Go.Ground.phase }, { on := 24, ground := Go.Ground.phase }, { on := 25, ground := Go.Ground.phase }, { on := 26, ground := Go.Ground.phase }, { on := 27, ground := Go.Ground.phase }, { on := 28, ground := Go.Ground.phase }, { on := 29, ground := Go.Ground.phase }, { on := 30, ground := Go.Ground.phase }, { on := 31, ground := Go.Ground.phase }, { on := 32, ground := Go.Ground.phase }, { on := 33, ground := Go.Ground.phase }, { on := 34, ground := Go.Ground.phase }, { on := 35, ground := Go.Ground.phase }, { on := 36, ground := Go.Ground.phase }, { on := 37, ground := Go.Ground.phase }, { on := 38, ground := Go.Ground.phase }], guard := none }) (v := ?_) rfl (by kernel_rfl) (by kernel_rfl) (by kernel_rfl) (fun _ _ _ h => h) (Or.inl ⟨by rfl, ?_⟩) (by assumption) ?_
          rotate_left
          · (intro w hSw; (try dsimp only at hSw); go_simp); try with_reducible rfl
          try simp only [Act.put, List.setIfInBounds_toArray, List.set_cons_zero, List.set_cons_succ]
          refine wpAnyH_done (by kernel_rfl) ?_ _
          have hbq := Lib.hid (K.out.b.trans ((Rx5.bel (gb := w.heap.size) (r := r) (W := wq) hHeld).mono K.out.b.size))
          clear hHeld
          go_wp2_with fail
          go_ret
          exact ⟨rfl, hbq.out⟩
theorem unions_walk (r : Rc) (A : Option Addr) (cap : Nat) (l : List Pl) (A2 : Option Addr) (c2 : Nat) (s : List Bx) (A3 : Option Addr) (c3 : Nat) (t : List Bx) (many : Int) (w : World) (h0 : PlRow w A l) (h1 : l.length ≤ cap) (h2 : cap ≤ 9223372036854775807) (hb : BIn w A2 c2 s) (hb2 : BIn w A3 c3 t) :
    Calls Tryz.prog 7 #[.agg #[.int .i64 r.X0, .int .i64 r.Y0, .int .i64 r.X1, .int .i64 r.Y1], .slice A l.length cap, .slice A2 s.length c2, .slice A3 t.length c3, .int .i64 many] w (BlIs true w) := by
  by_cases hn : l.length ≤ 12 ∧ s.length ≤ 12
  · by_cases ht : 12 < t.length
    · exact unions_many2 r A cap l A2 c2 s A3 c3 t many w hn ht
    · have hl : PlIn w A cap l := ⟨h0, by omega, h1, h2⟩
      by_cases k1 : ∀ b ∈ s, BOk b
      · by_cases k2 : ∀ b ∈ t, BOk b
        · exact unions_ok r A cap l A2 c2 s A3 c3 t many w hl hn (by omega) hb.row hb2.row _ _ (ofS_small k1 (by omega)) (ofS_small k2 (by omega)) (solB_small k1 (by omega)) (solB_small k2 (by omega)) (@decide _ (Classical.propDecidable _)) (@decide _ (Classical.propDecidable _)) (@decide _ (Classical.propDecidable _)) (@decide_eq_true_iff _ (Classical.propDecidable _)) (@decide_eq_true_iff _ (Classical.propDecidable _)) (@decide_eq_true_iff _ (Classical.propDecidable _))
        · exact unions_bad r A cap l A2 c2 s A3 c3 t many w hl hn (by omega) hb.row hb2.row _ _ 0 1 (ofS_small k1 (by omega)) (ofS_bad k2) (Or.inr (Or.inl ⟨rfl, rfl⟩))
      · by_cases k2 : ∀ b ∈ t, BOk b
        · exact unions_bad r A cap l A2 c2 s A3 c3 t many w hl hn (by omega) hb.row hb2.row _ _ 1 0 (ofS_bad k1) (ofS_small k2 (by omega)) (Or.inl ⟨rfl, rfl⟩)
        · exact unions_bad r A cap l A2 c2 s A3 c3 t many w hl hn (by omega) hb.row hb2.row _ _ 1 1 (ofS_bad k1) (ofS_bad k2) (Or.inr (Or.inr ⟨rfl, rfl⟩))
  · exact unions_many r A cap l A2 c2 s A3 c3 t many w hn
end Go.Proofs.YtppomhgknhmceaaGreat
