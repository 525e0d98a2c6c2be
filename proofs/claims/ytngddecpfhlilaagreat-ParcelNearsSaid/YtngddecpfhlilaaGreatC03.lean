/-
  Contracts of the program's layer 6 (1): firstSlab, lastSlab, continues with its closure, slices.EqualFunc at it.
-/
import Derived.Test.YtngddecpfhlilaaGreatC02
import Derived.Test.YtngddecpfhlilaaGreatC00
import Derived.BigQuiet
import Derived.Deep.RegionHeld3
import Derived.Deep.RegionLaw
set_option linter.unusedVariables false
set_option maxRecDepth 100000
namespace Go.Proofs.YtngddecpfhlilaaGreat
open Go.RowKit
def FirstIs (A : Option Addr) (cap : Nat) (l : List Rc) (w : World) (e : Ending) (w' : World) : Prop := ∃ n q, FirstAt l n ∧ e = .returned (.slice A n cap) ∧ w' = w.drewN q
set_option maxHeartbeats 8000000 in
theorem gfirst_any (A : Option Addr) (cap : Nat) (l : List Rc) (w : World) (h1 : RRow w A l) (h0 : 0 < l.length) (hl : l.length ≤ 1099511627776) (hcap : l.length ≤ cap) :
  Calls Tryz.prog 123 #[.slice A l.length cap] w (FirstIs A cap l w) := by
 obtain ⟨b1, o1, rfl, hb1, hv1⟩ := h1 h0
 obtain ⟨z0, z1, z2, z3⟩ := hv1 0 h0
 simp only [Nat.zero_mul, Nat.add_zero] at z0 z2
 clear z1 z3 h1
 have HV := Lib.hid hv1; clear hv1
 have ez : ∃ z, z = l[0] := ⟨_, rfl⟩
 obtain ⟨z, hz⟩ := ez
 rw [← hz] at z0 z2
 have HZ := Lib.hid hz; clear hz
 have FIRST0 : ∀ j (h : j < l.length), j < 1 → l[j].X0 = z.X0 ∧ l[j].X1 = z.X1 := fun j h hj => by
  obtain rfl : j = 0 := by omega
  rw [HZ.out]; exact ⟨rfl, rfl⟩
 have FIRST := Lib.hid FIRST0; clear FIRST0
 go_enter Tryz.func123, Tryz.ntmps123
 go_wp2
 go_loopw [3] (fun i wr => ∃ (k q : Nat), 1 ≤ k ∧ k ≤ l.length ∧ i = .int .i64 k ∧ wr = w.drewN q ∧ ∀ j (h : j < l.length), j < k → l[j].X0 = z.X0 ∧ l[j].X1 = z.X1) (fun i _ => l.length - (intOf i).toNat)
 case atStart => exact ⟨1, 0, Nat.le_refl _, h0, rfl, rfl, FIRST.out⟩
 case round =>
  obtain ⟨k, q, hk1, hk, rfl, rfl, ht⟩ := hrel
  have HT := Lib.hid ht; clear ht
  have i0 : (0 : Int) ≤ (k : Int) := by omega
  by_cases hlt : k < l.length
  ·obtain ⟨x0, x1, x2, x3⟩ := HV.out k hlt
   clear x1 x3
   have i1 : (k : Int) < (l.length : Int) := by omega
   have i2 : (0 : Int) < (l.length : Int) := by omega
   have eu : ∃ u, u = l[k] := ⟨_, rfl⟩
   obtain ⟨u, hu⟩ := eu
   rw [← hu] at x0 x2
   have HU := Lib.hid hu; clear hu
   by_cases c0 : u.X0 = z.X0
   ·have d0 : (u.X0 == z.X0) = true := by simp [c0]
    have C0 := Lib.hid c0; clear c0
    by_cases c1 : u.X1 = z.X1
    ·have d1 : (u.X1 == z.X1) = true := by simp [c1]
     have C1 := Lib.hid c1; clear c1
     go_wp2_with fail
     go_quiet (fail)
     go_wp2
     go_roundw
     case rel => exact ⟨k + 1, _, by omega, by omega, by go_num, rfl, fun j h hj => by
      by_cases e : j < k
      ·exact HT.out j h e
      ·obtain rfl : j = k := by omega
       rw [← HU.out]; exact ⟨C0.out, C1.out⟩⟩
     case measure => simp [intOf]; omega
    ·have d1 : (u.X1 == z.X1) = false := by simp [c1]
     have C1 := Lib.hid c1; clear c1
     have C : FirstAt l k := ⟨hk1, hk, fun j h hj => by rw [← HZ.out]; exact HT.out j h hj, fun h => by rw [← HZ.out, ← HU.out]; exact fun q => C1.out q.2⟩
     have C' := Lib.hid C; clear C
     go_wp2_with fail
     go_quiet (fail)
     go_wp2
     go_ret
     exact ⟨k, _, C'.out, rfl, rfl⟩
   ·have d0 : (u.X0 == z.X0) = false := by simp [c0]
    have C0 := Lib.hid c0; clear c0
    have C : FirstAt l k := ⟨hk1, hk, fun j h hj => by rw [← HZ.out]; exact HT.out j h hj, fun h => by rw [← HZ.out, ← HU.out]; exact fun q => C0.out q.1⟩
    have C' := Lib.hid C; clear C
    go_wp2_with fail
    go_quiet (fail)
    go_wp2
    go_ret
    exact ⟨k, _, C'.out, rfl, rfl⟩
  ·obtain rfl : k = l.length := by omega
   have C : FirstAt l l.length := ⟨hk1, hk, fun j h hj => by rw [← HZ.out]; exact HT.out j h hj, fun h => absurd h (Nat.lt_irrefl _)⟩
   have C' := Lib.hid C; clear C
   go_wp2_with fail
   go_quiet (fail)
   go_wp2
   go_ret
   exact ⟨l.length, _, C'.out, rfl, rfl⟩
def LastIs (b o : Nat) (cap : Nat) (l : List Rc) (w : World) (e : Ending) (w' : World) : Prop := ∃ n q, LastAt l n ∧ n < l.length ∧ e = .returned (.slice (some ⟨b, o + n * 4, none⟩) (l.length - n) (cap - n)) ∧ w' = w.drewN q
set_option maxHeartbeats 8000000 in
theorem glast_any (b1 o1 : Nat) (cap : Nat) (l : List Rc) (w : World) (hv1 : ∀ j (h : j < l.length), w.cell? ⟨b1, o1 + j * 4, none⟩ = some (.int .i64 l[j].X0)) (h0 : 0 < l.length) (hl : l.length ≤ 1099511627776) (hcap : l.length ≤ cap) (hcap2 : cap ≤ 9223372036854775807) :
    Calls Tryz.prog 165 #[.slice (some ⟨b1, o1, none⟩) l.length cap] w (LastIs b1 o1 cap l w) := by
  have z0 := hv1 (l.length - 1) (by omega)
  have HV := Lib.hid hv1; clear hv1
  have ez : ∃ z, z = (l[l.length - 1]'(by omega)).X0 := ⟨_, rfl⟩
  obtain ⟨z, hz⟩ := ez
  rw [← hz] at z0
  have HZ := Lib.hid hz; clear hz
  have q1 : IntKind.i64.wrap ((l.length : Int) - 1) = (l.length : Int) - 1 := IntWalk.i64_in _ (by omega)
  have q2 : (0 : Int) ≤ (l.length : Int) - 1 := by omega
  have q3 : ((l.length : Int) - 1).toNat = l.length - 1 := by omega
  have q4 : (l.length : Int) - 1 < (l.length : Int) := by omega
  have Q1 := Lib.hid q1; have Q2 := Lib.hid q2; have Q3 := Lib.hid q3; have Q4 := Lib.hid q4; clear q1 q2 q3 q4
  go_enter Tryz.func165, Tryz.ntmps165
  go_wp2
  go_loopw [3] (fun i wr => ∃ (k q : Nat), k ≤ l.length ∧ i = .int .i64 k ∧ wr = w.drewN q ∧ ∀ j (h : j < l.length), k ≤ j → l[j].X0 = z) (fun i _ => (intOf i).toNat)
  case atStart => exact ⟨l.length, 0, Nat.le_refl _, rfl, rfl, fun j h hj => by omega⟩
  case round =>
    obtain ⟨k, q, hk, rfl, rfl, ht⟩ := hrel
    have HT := Lib.hid ht; clear ht
    cases k with
    | succ k =>
      have x0 := HV.out k (by omega)
      have eu : ∃ u, u = (l[k]'(by omega)).X0 := ⟨_, rfl⟩
      obtain ⟨u, hu⟩ := eu
      rw [← hu] at x0
      have HU := Lib.hid hu; clear hu
      have i0 : decide ((0 : Int) < ((k + 1 : Nat) : Int)) = true := by simp
      have r1 : IntKind.i64.wrap (((k + 1 : Nat) : Int) - 1) = (k : Int) := by rw [show ((k + 1 : Nat) : Int) - 1 = (k : Int) by omega]; exact IntWalk.i64_in _ (by omega)
      have r2 : (0 : Int) ≤ (k : Int) := by omega
      have r3 : (k : Int) < (l.length : Int) := by omega
      by_cases c0 : u = z
      · have d0 : (u == z) = true := by simp [c0]
        have C0 := Lib.hid c0; clear c0
        have q1 := Q1.out; have q2 := Q2.out; have q3 := Q3.out; have q4 := Q4.out
        go_wp2_with fail
        go_quiet (fail)
        clear q1 q2 q3 q4
        go_wp2
        go_roundw
        case rel => exact ⟨k, _, by omega, by first | rfl | go_num, rfl, fun j h hj => by
            by_cases e : k + 1 ≤ j
            · exact HT.out j h e
            · obtain rfl : j = k := by omega
              rw [← HU.out]; exact C0.out⟩
        case measure => simp [intOf]
      · have d0 : (u == z) = false := by simp [c0]
        have hlk : k + 1 < l.length := by
          rcases Nat.lt_or_ge (k + 1) l.length with h | h
          · exact h
          · exfalso; apply c0; rw [HU.out, HZ.out]; congr 2 <;> omega
        have C : LastAt l (k + 1) := ⟨hk, fun j h hj => by rw [← HZ.out]; exact HT.out j h hj, fun h => by rw [← HZ.out]; simp only [Nat.add_sub_cancel]; rw [← HU.out]; exact c0⟩
        have C' := Lib.hid C; clear C c0
        have q1 := Q1.out; have q2 := Q2.out; have q3 := Q3.out; have q4 := Q4.out
        have s1 : ((k + 1 : Nat) : Int) ≤ (l.length : Int) := by omega
        have s2 : (l.length : Int) ≤ (cap : Int) := by omega
        have s3 : ¬ (k + 1 = cap) := by omega
        go_wp2_with fail
        go_quiet (fail)
        clear q1 q2 q3 q4
        go_wp2
        go_ret
        exact ⟨k + 1, _, C'.out, hlk, by first | rfl | simp [Addr.add], rfl⟩
    | zero =>
      have C : LastAt l 0 := ⟨hk, fun j h hj => by rw [← HZ.out]; exact HT.out j h hj, fun h => absurd h (Nat.lt_irrefl _)⟩
      have C' := Lib.hid C; clear C
      have s3 : ¬ (0 = cap) := by omega
      go_wp2_with fail
      go_quiet (fail)
      go_wp2
      go_ret
      exact ⟨0, _, C'.out, h0, by first | rfl | simp [Addr.add], rfl⟩
set_option maxHeartbeats 4000000 in
theorem gcontC_any (a b : Rc) (w : World) : Calls Tryz.prog 167 #[.agg #[.int .i64 a.X0, .int .i64 a.Y0, .int .i64 a.X1, .int .i64 a.Y1], .agg #[.int .i64 b.X0, .int .i64 b.Y0, .int .i64 b.X1, .int .i64 b.Y1]] w (BlIs (yyB a b) w) := by
 by_cases c0 : a.Y0 = b.Y0
 ·have d0 : (a.Y0 == b.Y0) = true := by simp [c0]
  by_cases c1 : a.Y1 = b.Y1
  ·have d1 : (a.Y1 == b.Y1) = true := by simp [c1]
   rw [show yyB a b = true from decide_eq_true ⟨c0, c1⟩]
   clear c0 c1
   go_enter Tryz.func167, Tryz.ntmps167
   go_wp2
   go_ret
   exact ⟨rfl, by (repeat' first | exact Below.refl _ _ | assumption | (apply below_drewN) | (refine Below.setCell ?_ (by (try simp); (try omega)) _) | (refine Below.alloc ?_ (by (try simp); (try omega)) _) | (refine Below.trans ?_ (Below.mono (Hid.out (by assumption)) (by (try simp); (try omega)))))⟩
  ·have d1 : (a.Y1 == b.Y1) = false := by simp [c1]
   rw [show yyB a b = false from decide_eq_false (fun h => c1 h.2)]
   clear c0 c1
   go_enter Tryz.func167, Tryz.ntmps167
   go_wp2
   go_ret
   exact ⟨rfl, by (repeat' first | exact Below.refl _ _ | assumption | (apply below_drewN) | (refine Below.setCell ?_ (by (try simp); (try omega)) _) | (refine Below.alloc ?_ (by (try simp); (try omega)) _) | (refine Below.trans ?_ (Below.mono (Hid.out (by assumption)) (by (try simp); (try omega)))))⟩
 ·have d0 : (a.Y0 == b.Y0) = false := by simp [c0]
  rw [show yyB a b = false from decide_eq_false (fun h => c0 h.1)]
  clear c0
  go_enter Tryz.func167, Tryz.ntmps167
  go_wp2
  go_ret
  exact ⟨rfl, by (repeat' first | exact Below.refl _ _ | assumption | (apply below_drewN) | (refine Below.setCell ?_ (by (try simp); (try omega)) _) | (refine Below.alloc ?_ (by (try simp); (try omega)) _) | (refine Below.trans ?_ (Below.mono (Hid.out (by assumption)) (by (try simp); (try omega)))))⟩
theorem yysB_take : ∀ {l m : List Rc} {k : Nat} (h1 : k < l.length) (h2 : k < m.length), yysB (l.take k) (m.take k) = true → yyB l[k] m[k] = true → yysB (l.take (k + 1)) (m.take (k + 1)) = true := by
 intro l
 induction l with
 | nil => intro m k h; simp at h
 | cons a l ih =>
  intro m k h1 h2 h3 h4
  cases m with
  | nil => simp at h2
  | cons b m =>
   cases k with
   | zero => simpa [yysB] using h4
   | succ k =>
    simp only [List.take_succ_cons, yysB, Bool.and_eq_true] at h3 ⊢
    exact ⟨h3.1, ih (by simpa using h1) (by simpa using h2) h3.2 (by simpa using h4)⟩
theorem yysB_at : ∀ {l m : List Rc} {k : Nat} (h1 : k < l.length) (h2 : k < m.length), yysB l m = true → yyB l[k] m[k] = true := by
 intro l
 induction l with
 | nil => intro m k h; simp at h
 | cons a l ih =>
  intro m k h1 h2 h3
  cases m with
  | nil => simp at h2
  | cons b m =>
   simp only [yysB, Bool.and_eq_true] at h3
   cases k with
   | zero => simpa using h3.1
   | succ k => simpa using ih (by simpa using h1) (by simpa using h2) h3.2
theorem yysB_len : ∀ {l m : List Rc}, yysB l m = true → l.length = m.length := by
 intro l
 induction l with
 | nil => intro m h; cases m with
  | nil => rfl
  | cons b m => simp [yysB] at h
 | cons a l ih => intro m h; cases m with
  | nil => simp [yysB] at h
  | cons b m => simp only [yysB, Bool.and_eq_true] at h; simp [ih h.2]
set_option maxHeartbeats 8000000 in
theorem geqf_any (A1 : Option Addr) (c1 : Nat) (A2 : Option Addr) (c2 : Nat) (l m : List Rc) (w : World) (h1 : RRow w A1 l) (h2 : RRow w A2 m) (hl : l.length ≤ 1099511627776) (hm : m.length ≤ 1099511627776) :
  Calls Tryz.prog 166 #[.slice A1 l.length c1, .slice A2 m.length c2, .func (.func 167) #[] #[]] w (BlIs (yysB l m) w) := by
 have H1 := Lib.hid h1; clear h1
 have H2 := Lib.hid h2; clear h2
 by_cases hlen : l.length = m.length
 ·have hll : ((l.length : Int) != (m.length : Int)) = false := by simp [hlen]
  have HB0 := Lib.hid (Below.refl w.heap.size w)
  have HLEN := Lib.hid hlen; clear hlen
  go_enter Tryz.func166, Tryz.ntmps166
  go_wp2
  go_loopw [17] (fun i wr => ∃ (k : Nat), k ≤ l.length ∧ i = .int .i64 k ∧ Hid (Below w.heap.size w wr) ∧ yysB (l.take k) (m.take k) = true) (fun i _ => l.length - (intOf i).toNat)
  case atStart => exact ⟨0, Nat.zero_le _, rfl, HB0, rfl⟩
  case round =>
   clear HB0
   obtain ⟨k, hk, rfl, HB, ht⟩ := hrel
   have HT := Lib.hid ht; clear ht
   by_cases hlt : k < l.length
   ·obtain ⟨b1, o1, rfl, hb1, hv1⟩ := H1.out (by omega)
    have hk2 : k < m.length := by have := HLEN.out; omega
    obtain ⟨b2, o2, rfl, hb2, hv2⟩ := H2.out (by omega)
    obtain ⟨x0, x1, x2, x3⟩ := hv1 k hlt
    obtain ⟨y0, y1, y2, y3⟩ := hv2 k hk2
    have NEXT := Lib.hid (yysB_take (l := l) (m := m) hlt hk2 HT.out)
    have NO := Lib.hid (fun h : yysB l m = true => yysB_at hlt hk2 h)
    have i0 : (0 : Int) ≤ (k : Int) := by omega
    have i1 : (k : Int) < (l.length : Int) := by omega
    have i2 : (k : Int) < (m.length : Int) := by omega
    clear hv1 hv2
    generalize l[k] = u at *
    generalize m[k] = v at *
    have wc := fun o => HB.out.cell (p := ⟨b1, o, none⟩) hb1
    have wd := fun o => HB.out.cell (p := ⟨b2, o, none⟩) hb2
    have x0 := (wc _).trans x0; have x1 := (wc _).trans x1; have x2 := (wc _).trans x2; have x3 := (wc _).trans x3
    have y0 := (wd _).trans y0; have y1 := (wd _).trans y1; have y2 := (wd _).trans y2; have y3 := (wd _).trans y3
    clear wc wd
    have hbw : b1 < wr.heap.size := Nat.lt_of_lt_of_le hb1 HB.out.size
    have hbw2 : b2 < wr.heap.size := Nat.lt_of_lt_of_le hb2 HB.out.size
    have hbs := HB.out.size
    cases hyy : yyB u v with
    | true =>
     go_wp2_with (go_at_call 167; refine (gcontC_any u v _).mono ?_; rw [hyy]; rintro e w1 ⟨rfl, hb⟩; have HBl := Lib.hid hb; clear hb)
     go_roundw
     case rel => exact ⟨k + 1, by omega, by go_num, Lib.hid (by (repeat' first | exact Below.refl _ _ | assumption | (apply below_drewN) | (refine Below.setCell ?_ (by (try simp); (try omega)) _) | (refine Below.alloc ?_ (by (try simp); (try omega)) _) | (refine Below.trans ?_ (Below.mono (Hid.out (by assumption)) (by (try simp); (try omega)))))), NEXT.out hyy⟩
     case measure => simp [intOf]; omega
    | false =>
     have hno : yysB l m = false := by
      cases h : yysB l m with
      | false => rfl
      | true => rw [NO.out h] at hyy; cases hyy
     have HNO := Lib.hid hno; clear hno
     go_wp2_with (go_at_call 167; refine (gcontC_any u v _).mono ?_; rw [hyy]; rintro e w1 ⟨rfl, hb⟩; have HBl := Lib.hid hb; clear hb)
     go_ret
     exact ⟨by rw [HNO.out]; rfl, by (repeat' first | exact Below.refl _ _ | assumption | (apply below_drewN) | (refine Below.setCell ?_ (by (try simp); (try omega)) _) | (refine Below.alloc ?_ (by (try simp); (try omega)) _) | (refine Below.trans ?_ (Below.mono (Hid.out (by assumption)) (by (try simp); (try omega)))))⟩
   ·obtain rfl : k = l.length := by omega
    have he : yysB l m = true := by
     have := HT.out
     rw [List.take_length, HLEN.out, List.take_length] at this
     exact this
    have HE := Lib.hid he; clear he
    go_wp2
    go_ret
    exact ⟨by rw [HE.out]; rfl, HB.out⟩
 ·have hll : ((l.length : Int) != (m.length : Int)) = true := by simp; omega
  have hno : yysB l m = false := by
   cases h : yysB l m with
   | false => rfl
   | true => exact absurd (yysB_len h) hlen
  rw [hno]
  clear hno hlen
  go_enter Tryz.func166, Tryz.ntmps166
  go_wp2
  go_ret
  exact ⟨rfl, by (repeat' first | exact Below.refl _ _ | assumption | (apply below_drewN) | (refine Below.setCell ?_ (by (try simp); (try omega)) _) | (refine Below.alloc ?_ (by (try simp); (try omega)) _) | (refine Below.trans ?_ (Below.mono (Hid.out (by assumption)) (by (try simp); (try omega)))))⟩
set_option maxHeartbeats 8000000 in
theorem gcont_any (A1 : Option Addr) (c1 : Nat) (A2 : Option Addr) (c2 : Nat) (l m : List Rc) (w : World) (h1 : RRow w A1 l) (h2 : RRow w A2 m) (hl : l.length ≤ 1099511627776) (hm : m.length ≤ 1099511627776) (n1 : 0 < l.length) (n2 : 0 < m.length) :
  Calls Tryz.prog 125 #[.slice A1 l.length c1, .slice A2 m.length c2] w (BlIs (contB l m l[0].X1 m[0].X0) w) := by
 have HC := Lib.hid (fun w' => fun (hb : Below w.heap.size w w') => geqf_any A1 c1 A2 c2 l m w' (h1.below hb) (h2.below hb) hl hm)
 obtain ⟨b1, o1, rfl, hb1, hv1⟩ := h1 n1
 obtain ⟨b2, o2, rfl, hb2, hv2⟩ := h2 n2
 obtain ⟨x0, x1, x2, x3⟩ := hv1 0 n1
 obtain ⟨y0, y1, y2, y3⟩ := hv2 0 n2
 simp only [Nat.zero_mul, Nat.add_zero] at x2 y0
 clear hv1 hv2 x0 x1 x3 y1 y2 y3 h1 h2
 generalize l[0].X1 = a at *
 generalize m[0].X0 = b at *
 have i1 : (0 : Int) < (l.length : Int) := by omega
 have i2 : (0 : Int) < (m.length : Int) := by omega
 unfold contB
 generalize yysB l m = r at *
 by_cases c : a = b
 ·have d : (a == b) = true := by simp [c]
  rw [decide_eq_true c, Bool.true_and]
  clear c
  go_enter Tryz.func125, Tryz.ntmps125
  go_wp2_with fail
  go_region_with ((go_at_call 166; refine (HC.out _ (by (repeat' first | exact Below.refl _ _ | assumption | (apply below_drewN) | (refine Below.setCell ?_ (by (try simp); (try omega)) _) | (refine Below.alloc ?_ (by (try simp); (try omega)) _) | (refine Below.trans ?_ (Below.mono (Hid.out (by assumption)) (by (try simp); (try omega))))))).mono ?_; rintro e w1 ⟨rfl, hb⟩; have HBl := Lib.hid hb; clear hb))
  all_goals
   go_wp2
   go_ret
   exact ⟨rfl, by (repeat' first | exact Below.refl _ _ | assumption | (apply below_drewN) | (refine Below.setCell ?_ (by (try simp); (try omega)) _) | (refine Below.alloc ?_ (by (try simp); (try omega)) _) | (refine Below.trans ?_ (Below.mono (Hid.out (by assumption)) (by (try simp); (try omega)))))⟩
 ·have d : (a == b) = false := by simp [c]
  rw [decide_eq_false c, Bool.false_and]
  clear c
  go_enter Tryz.func125, Tryz.ntmps125
  go_wp2_with fail
  go_quiet (fail)
  go_wp2
  go_ret
  exact ⟨rfl, by (repeat' first | exact Below.refl _ _ | assumption | (apply below_drewN) | (refine Below.setCell ?_ (by (try simp); (try omega)) _) | (refine Below.alloc ?_ (by (try simp); (try omega)) _) | (refine Below.trans ?_ (Below.mono (Hid.out (by assumption)) (by (try simp); (try omega)))))⟩
end Go.Proofs.YtngddecpfhlilaaGreat
