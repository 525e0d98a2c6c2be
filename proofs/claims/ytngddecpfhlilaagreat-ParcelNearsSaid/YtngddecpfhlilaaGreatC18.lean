/-
  Contracts of layer 13 (4): the library's searches: BinarySearch, Index, Contains over ints; BinarySearchFunc over lots; index, isThere.
-/
import Derived.Test.YtngddecpfhlilaaGreatC17
import Derived.Test.YtngddecpfhlilaaGreatC09
import Derived.Test.YtngddecpfhlilaaGreatWs
set_option linter.unusedVariables false
set_option maxRecDepth 100000
namespace Go.Proofs.YtngddecpfhlilaaGreat
open Go.RowKit
theorem less_any (x y : Int) (w : World) : Calls Tryz.prog 157 #[.int .i64 x, .int .i64 y] w fun e w' => e = .returned (.bool (decide (x < y))) ∧ w' = w := by
 have hn := fun W' => Go.Proofs.Tryz.cmp_isNaN_int x W'
 have hd : ∃ d, d = decide (x < y) := ⟨_, rfl⟩
 go_enter Tryz.func157, Tryz.ntmps157
 go_wp2_with (go_at_call 156; refine (hn _).mono ?_; rintro e w' ⟨rfl, rfl⟩)
 go_ret
 exact ⟨rfl, rfl⟩
theorem snan_any (x : Int) (w : World) : Calls Tryz.prog 158 #[.int .i64 x] w fun e w' => e = .returned (.bool false) ∧ w' = w := by
 go_enter Tryz.func158, Tryz.ntmps158
 go_wp2
 go_ret
 exact ⟨by simp, rfl⟩
structure PosI (l : List Int) (x : Int) (i : Nat) : Prop where
 le : i ≤ l.length
 lo : ∀ j (h : j < l.length), j < i → l[j] < x
 hi : ∀ j (h : j < l.length), i ≤ j → x ≤ l[j]
theorem asc_at : ∀ {l : List Int}, Asc l → ∀ {i j : Nat} (hij : i < j) (hj : j < l.length), l[i]'(by omega) < l[j]
 | [], _, i, j, _, hj => absurd hj (by simp)
 | a :: l, h, 0, j + 1, _, hj => by
  have hj2 : j < l.length := by simpa using hj
  have := h.lt l[j] (List.getElem_mem hj2)
  simpa using this
 | a :: l, h, i + 1, j + 1, hij, hj => by
  have := asc_at h.tail (i := i) (j := j) (by omega) (by simpa using hj)
  simpa using this
 | a :: l, _, _, 0, hij, _ => absurd hij (by omega)
theorem PosI.mem {l : List Int} {x : Int} {i : Nat} (h : PosI l x i) (ha : ∀ i j (hij : i < j) (hj : j < l.length), l[i]'(by omega) < l[j]) : x ∈ l ↔ ∃ h : i < l.length, l[i] = x := by
 constructor
 ·intro hx
  obtain ⟨j, hj, e⟩ := List.getElem_of_mem hx
  rcases Nat.lt_or_ge j i with c | c
  ·have := h.lo j hj c; omega
  ·have h1 : i < l.length := by omega
   refine ⟨h1, ?_⟩
   have h2 := h.hi i h1 (Nat.le_refl _)
   rcases Nat.lt_or_ge i j with c2 | c2
   ·have := ha i j c2 hj; omega
   ·obtain rfl : i = j := by omega
    exact e
 ·rintro ⟨h1, e⟩; rw [← e]; exact List.getElem_mem h1
def PosR (l : List Int) (x : Int) (w : World) (e : Ending) (w' : World) : Prop := ∃ i : Nat, e = .returned (.tuple #[.int .i64 (i : Int), .bool (decide (x ∈ l))]) ∧ PosI l x i ∧ ∃ q, w' = w.drewN q
set_option maxHeartbeats 8000000 in
theorem bs_any (A : Option Addr) (cap : Nat) (l : List Int) (x : Int) (w : World) (h : NIn w A cap l) (ha : Asc l) : Calls Tryz.prog 109 #[.slice A l.length cap, .int .i64 x] w (PosR l x w) := by
 have HL := Lib.hid h; clear h
 have HASC := Lib.hid (fun i j (hij : i < j) (hj : j < l.length) => asc_at ha hij hj); clear ha
 have hlen := HL.out.len
 go_enter Tryz.func109, Tryz.ntmps109
 go_wp2
 go_loopw [7, 8] (fun s t wr => ∃ (lo hi q : Nat), s = .int .i64 lo ∧ t = .int .i64 hi ∧ lo ≤ hi ∧ hi ≤ l.length ∧ wr = w.drewN q ∧ Hid ((∀ j (h : j < l.length), j < lo → l[j] < x) ∧ (∀ j (h : j < l.length), hi ≤ j → x ≤ l[j]))) (fun s t _ => (intOf t).toNat - (intOf s).toNat)
 case atStart => exact ⟨0, l.length, 0, rfl, rfl, Nat.zero_le _, Nat.le_refl _, rfl, Lib.hid ⟨fun j h hj => absurd hj (Nat.not_lt_zero _), fun j h hj => absurd h (by omega)⟩⟩
 case round =>
  obtain ⟨lo, hi, q, rfl, rfl, hlh, hin, rfl, hI⟩ := hrel
  by_cases hlt : lo < hi
  ·obtain ⟨b, o, rfl, hb, hv⟩ := HL.out.row (by omega)
   have hm : (lo + hi) / 2 < l.length := by omega
   have x0 := hv _ hm
   clear hv
   have m0 : ((lo : Int) + (hi : Int)) / 2 = (((lo + hi) / 2 : Nat) : Int) := by omega
   obtain ⟨m, hme⟩ : ∃ m, m = (lo + hi) / 2 := ⟨_, rfl⟩
   have c1 : lo ≤ m := by omega
   have c2 : m < hi := by omega
   have HUP := Lib.hid (fun (c : l[(lo + hi) / 2] < x) => (⟨fun j h hj => by
    rcases Nat.lt_or_ge j ((lo + hi) / 2) with c3 | c3
    ·have := HASC.out j ((lo + hi) / 2) c3 hm; omega
    ·obtain rfl : j = (lo + hi) / 2 := by omega
     exact c, hI.out.2⟩ : (∀ j (h : j < l.length), j < (lo + hi) / 2 + 1 → l[j] < x) ∧ (∀ j (h : j < l.length), hi ≤ j → x ≤ l[j])))
   have HDN := Lib.hid (fun (c : ¬ l[(lo + hi) / 2] < x) => (⟨hI.out.1, fun j h hj => by
    rcases Nat.lt_or_ge ((lo + hi) / 2) j with c3 | c3
    ·have := HASC.out ((lo + hi) / 2) j c3 h; omega
    ·obtain rfl : j = (lo + hi) / 2 := by omega
     omega⟩ : (∀ j (h : j < l.length), j < lo → l[j] < x) ∧ (∀ j (h : j < l.length), (lo + hi) / 2 ≤ j → x ≤ l[j])))
   generalize l[(lo + hi) / 2] = y at *
   rw [← hme] at x0 m0 HUP HDN
   clear hme hI
   have n0 : (0 : Int) ≤ (m : Int) := by omega
   have n1 : (m : Int) < (l.length : Int) := by omega
   by_cases c : y < x
   ·have hd := decide_eq_true c
    have HU2 := Lib.hid (HUP.out c); clear c HUP HDN
    have HLS := Lib.hid (fun W' => less_any y x W')
    rw [hd] at HLS
    go_wp2_with (go_at_call 157; refine (HLS.out _).mono ?_; rintro e w' ⟨rfl, rfl⟩)
    go_roundw
    case rel => exact ⟨m + 1, hi, _, by go_num, rfl, by omega, hin, rfl, HU2.out⟩
    case measure => simp [intOf]; omega
   ·have hd := decide_eq_false c
    have HU2 := Lib.hid (HDN.out c); clear c HUP HDN
    have HLS := Lib.hid (fun W' => less_any y x W')
    rw [hd] at HLS
    go_wp2_with (go_at_call 157; refine (HLS.out _).mono ?_; rintro e w' ⟨rfl, rfl⟩)
    go_roundw
    case rel => exact ⟨lo, m, _, rfl, rfl, c1, by omega, rfl, HU2.out⟩
    case measure => simp [intOf]; omega
  ·obtain rfl : hi = lo := by omega
   have HP := Lib.hid (⟨hin, hI.out.1, hI.out.2⟩ : PosI l x hi)
   clear hI
   by_cases hn : hi < l.length
   ·obtain ⟨b, o, rfl, hb, hv⟩ := HL.out.row (by omega)
    have x0 := hv _ hn
    clear hv
    have n0 : (0 : Int) ≤ (hi : Int) := by omega
    have n1 : (hi : Int) < (l.length : Int) := by omega
    have HE : Hid (decide (x ∈ l) = decide (l[hi] = x)) := Lib.hid (by rw [decide_eq_decide, HP.out.mem HASC.out]; exact ⟨fun ⟨_, e⟩ => e, fun e => ⟨hn, e⟩⟩)
    generalize l[hi] = y at *
    have HSN := Lib.hid (fun x W' => snan_any x W')
    by_cases c : y = x
    ·have hd : (y == x) = true := by simpa using c
     rw [decide_eq_true c] at HE
     clear c
     go_wp2_with (go_at_call 158; refine (HSN.out _ _).mono ?_; rintro e w' ⟨rfl, rfl⟩)
     go_ret2
     exact ⟨hi, by rw [HE.out]; first | rfl | (simp; done) | (simp; omega) | (simp [n1]; done) | simp_all, HP.out, ⟨_, rfl⟩⟩
    ·have hd : (y == x) = false := by simpa using c
     rw [decide_eq_false c] at HE
     clear c
     go_wp2_with (go_at_call 158; refine (HSN.out _ _).mono ?_; rintro e w' ⟨rfl, rfl⟩)
     go_ret2
     exact ⟨hi, by rw [HE.out]; first | rfl | (simp; done) | (simp; omega) | (simp [n1]; done) | simp_all, HP.out, ⟨_, rfl⟩⟩
   ·have HE : Hid (decide (x ∈ l) = false) := Lib.hid (decide_eq_false (fun h => by obtain ⟨h1, _⟩ := (HP.out.mem HASC.out).1 h; exact hn h1))
    have n1 : ¬ (hi : Int) < (l.length : Int) := by omega
    go_wp2
    go_ret2
    exact ⟨hi, by rw [HE.out]; first | rfl | (simp; done) | (simp; omega) | (simp [n1]; done) | simp_all, HP.out, ⟨_, rfl⟩⟩
def IdI (l : List Int) (x : Int) (w : World) (e : Ending) (w' : World) : Prop := ∃ i : Int, e = .returned (.int .i64 i) ∧ (0 ≤ i ↔ x ∈ l) ∧ Below w.heap.size w w'
set_option maxHeartbeats 8000000 in
theorem idx13_any (A : Option Addr) (cap : Nat) (l : List Int) (x : Int) (w : World) (h : NIn w A cap l) : Calls Tryz.prog 168 #[.slice A l.length cap, .int .i64 x] w (IdI l x w) := by
 have HL := Lib.hid h; clear h
 have hlen := HL.out.len
 go_enter Tryz.func168, Tryz.ntmps168
 go_wp2
 go_loopw [8] (fun i wr => ∃ (k q : Nat), k ≤ l.length ∧ i = .int .i64 k ∧ wr = w.drewN q ∧ ∀ j (h : j < l.length), j < k → l[j] ≠ x) (fun i _ => l.length - (intOf i).toNat)
 case atStart => exact ⟨0, 0, Nat.zero_le _, rfl, rfl, fun j h hj => absurd hj (Nat.not_lt_zero _)⟩
 case round =>
  obtain ⟨k, q, hk, rfl, rfl, ht⟩ := hrel
  have HT := Lib.hid ht; clear ht
  by_cases hlt : k < l.length
  ·obtain ⟨b, o, rfl, hb, hv⟩ := HL.out.row (by omega)
   have x0 := hv _ hlt
   clear hv
   have n0 : (0 : Int) ≤ (k : Int) := by omega
   have n1 : (k : Int) < (l.length : Int) := by omega
   have HY := Lib.hid (fun (c : x = l[k]) => (⟨fun _ => by rw [c]; exact List.getElem_mem hlt, fun _ => by omega⟩ : 0 ≤ (k : Int) ↔ x ∈ l))
   have HN := Lib.hid (fun (c : ¬ x = l[k]) j (h : j < l.length) (hj : j < k + 1) => show l[j] ≠ x from by
    by_cases e : j < k
    ·exact HT.out j h e
    ·obtain rfl : j = k := by omega
     exact fun e => c e.symm)
   generalize l[k] = y at *
   by_cases c : x = y
   ·have hd : (x == y) = true := by simpa using c
    have HY2 := Lib.hid (HY.out c); clear c HY HN
    go_wp2
    go_ret
    exact ⟨_, rfl, HY2.out, by (repeat' first | exact Below.refl _ _ | assumption | (apply below_drewN) | (refine Below.setCell ?_ (by (try simp); (try omega)) _) | (refine Below.alloc ?_ (by (try simp); (try omega)) _) | (refine Below.trans ?_ (Below.mono (Hid.out (by assumption)) (by (try simp); (try omega)))))⟩
   ·have hd : (x == y) = false := by simpa using c
    have HN2 := Lib.hid (HN.out c); clear c HY HN
    go_wp2
    go_roundw
    case rel => exact ⟨k + 1, _, by omega, by go_num, rfl, HN2.out⟩
    case measure => simp [intOf]; omega
  ·obtain rfl : k = l.length := by omega
   have HY : Hid (0 ≤ (-1 : Int) ↔ x ∈ l) := Lib.hid ⟨fun h => absurd h (by decide), fun h => by
    obtain ⟨j, hj, e⟩ := List.getElem_of_mem h
    exact absurd e (HT.out j hj hj)⟩
   go_wp2
   go_ret
   exact ⟨_, rfl, HY.out, by (repeat' first | exact Below.refl _ _ | assumption | (apply below_drewN) | (refine Below.setCell ?_ (by (try simp); (try omega)) _) | (refine Below.alloc ?_ (by (try simp); (try omega)) _) | (refine Below.trans ?_ (Below.mono (Hid.out (by assumption)) (by (try simp); (try omega)))))⟩
theorem cont_any (A : Option Addr) (cap : Nat) (l : List Int) (x : Int) (w : World) (h : NIn w A cap l) : Calls Tryz.prog 131 #[.slice A l.length cap, .int .i64 x] w (BlIs (decide (x ∈ l)) w) := by
 have HI := Lib.hid (idx13_any A cap l x w h)
 clear h
 go_enter Tryz.func131, Tryz.ntmps131
 go_wp2_with fail
 refine HI.out.mono ?_
 rintro e w1 ⟨i, rfl, hi, hb⟩
 have HB1 := Lib.hid hb
 have HE : Hid (decide (x ∈ l) = decide (0 ≤ i)) := Lib.hid (decide_eq_decide.2 hi.symm)
 clear hi hb HI
 go_wp2_with fail
 go_ret
 exact ⟨by rw [HE.out]; rfl, HB1.out⟩
theorem ascL_at : ∀ {l : List Lt}, AscL l → ∀ {i j : Nat} (hij : i < j) (hj : j < l.length), (l[i]'(by omega)).id < l[j].id
 | [], _, i, j, _, hj => absurd hj (by simp)
 | a :: l, h, 0, j + 1, _, hj => by
  have hj2 : j < l.length := by simpa using hj
  have := h.1 l[j] (List.getElem_mem hj2)
  simpa using this
 | a :: l, h, i + 1, j + 1, hij, hj => by
  have := ascL_at h.2 (i := i) (j := j) (by omega) (by simpa using hj)
  simpa using this
 | a :: l, _, _, 0, hij, _ => absurd hij (by omega)
theorem lidC_any (t : Lt) (p : LtP) (x : Int) (w : World) : Calls Tryz.prog 129 #[lvl t p, .int .i64 x] w (InIs (Lib.compareInt t.id x) w) := by
 unfold lvl
 have hc := fun W' => Go.Proofs.Tryz.cmp_Compare_int t.id x W'
 generalize Lib.compareInt t.id x = r at *
 go_enter Tryz.func129, Tryz.ntmps129
 go_wp2_with (go_at_call 107; refine (hc _).mono ?_; rintro e w' ⟨rfl, hb⟩; subst hb)
 go_ret
 exact ⟨rfl, by (repeat' first | exact Below.refl _ _ | assumption | (apply below_drewN) | (refine Below.setCell ?_ (by (try simp); (try omega)) _) | (refine Below.alloc ?_ (by (try simp); (try omega)) _) | (refine Below.trans ?_ (Below.mono (Hid.out (by assumption)) (by (try simp); (try omega)))))⟩
structure PosL (l : List Lt) (x : Int) (i : Nat) : Prop where
 le : i ≤ l.length
 lo : ∀ j (h : j < l.length), j < i → l[j].id < x
 hi : ∀ j (h : j < l.length), i ≤ j → x ≤ l[j].id
def isIn (l : List Lt) (x : Int) : Bool := l.any fun t => decide (t.id = x)
theorem PosL.mem {l : List Lt} {x : Int} {i : Nat} (h : PosL l x i) (ha : ∀ i j (hij : i < j) (hj : j < l.length), (l[i]'(by omega)).id < l[j].id) : isIn l x = true ↔ ∃ h : i < l.length, l[i].id = x := by
 unfold isIn
 rw [List.any_eq_true]
 constructor
 ·rintro ⟨t, ht, e⟩
  obtain ⟨j, hj, rfl⟩ := List.getElem_of_mem ht
  have e : l[j].id = x := by simpa using e
  rcases Nat.lt_or_ge j i with c | c
  ·have := h.lo j hj c; omega
  ·have h1 : i < l.length := by omega
   refine ⟨h1, ?_⟩
   have h2 := h.hi i h1 (Nat.le_refl _)
   rcases Nat.lt_or_ge i j with c2 | c2
   ·have := ha i j c2 hj; omega
   ·obtain rfl : i = j := by omega
    exact e
 ·rintro ⟨h1, e⟩; exact ⟨_, List.getElem_mem h1, by simpa using e⟩
def PosLR (l : List Lt) (x : Int) (w : World) (e : Ending) (w' : World) : Prop := ∃ i : Nat, e = .returned (.tuple #[.int .i64 (i : Int), .bool (isIn l x)]) ∧ PosL l x i ∧ Below w.heap.size w w'
set_option maxHeartbeats 8000000 in
theorem bsl_any (A : Option Addr) (cap : Nat) (l : List Lt) (x : Int) (w : World) (h : LtIn w A cap l) (ha : AscL l) : Calls Tryz.prog 128 #[.slice A l.length cap, .int .i64 x, .func (.func 129) #[] #[]] w (PosLR l x w) := by
 have HL := Lib.hid h; clear h
 have HASC := Lib.hid (fun i j (hij : i < j) (hj : j < l.length) => ascL_at ha hij hj); clear ha
 have hlen := HL.out.len
 have HB0 := Lib.hid (Below.refl w.heap.size w)
 go_enter Tryz.func128, Tryz.ntmps128
 go_wp2
 go_loopw [9, 10] (fun s t wr => ∃ (lo hi : Nat), s = .int .i64 lo ∧ t = .int .i64 hi ∧ lo ≤ hi ∧ hi ≤ l.length ∧ Hid (Below w.heap.size w wr) ∧ Hid ((∀ j (h : j < l.length), j < lo → l[j].id < x) ∧ (∀ j (h : j < l.length), hi ≤ j → x ≤ l[j].id))) (fun s t _ => (intOf t).toNat - (intOf s).toNat)
 case atStart => exact ⟨0, l.length, rfl, rfl, Nat.zero_le _, Nat.le_refl _, HB0, Lib.hid ⟨fun j h hj => absurd hj (Nat.not_lt_zero _), fun j h hj => absurd h (by omega)⟩⟩
 case round =>
  clear HB0
  obtain ⟨lo, hi, rfl, rfl, hlh, hin, HB, hI⟩ := hrel
  have hbs := HB.out.size
  by_cases hlt : lo < hi
  ·have hm : (lo + hi) / 2 < l.length := by omega
   obtain ⟨b, o, p, rfl, hb, ⟨x0, x1, x2, x3⟩, _⟩ := HL.out.at_ hm
   have wc := fun o => HB.out.cell (p := ⟨b, o, none⟩) hb
   have x0 := (wc _).trans x0; have x1 := (wc _).trans x1; have x2 := (wc _).trans x2; have x3 := (wc _).trans x3
   clear wc
   have m0 : ((lo : Int) + (hi : Int)) / 2 = (((lo + hi) / 2 : Nat) : Int) := by omega
   obtain ⟨m, hme⟩ : ∃ m, m = (lo + hi) / 2 := ⟨_, rfl⟩
   have c1 : lo ≤ m := by omega
   have c2 : m < hi := by omega
   have HUP := Lib.hid (fun (c : l[(lo + hi) / 2].id < x) => (⟨fun j h hj => by
    rcases Nat.lt_or_ge j ((lo + hi) / 2) with c3 | c3
    ·have := HASC.out j ((lo + hi) / 2) c3 hm; omega
    ·obtain rfl : j = (lo + hi) / 2 := by omega
     exact c, hI.out.2⟩ : (∀ j (h : j < l.length), j < (lo + hi) / 2 + 1 → l[j].id < x) ∧ (∀ j (h : j < l.length), hi ≤ j → x ≤ l[j].id)))
   have HDN := Lib.hid (fun (c : ¬ l[(lo + hi) / 2].id < x) => (⟨hI.out.1, fun j h hj => by
    rcases Nat.lt_or_ge ((lo + hi) / 2) j with c3 | c3
    ·have := HASC.out ((lo + hi) / 2) j c3 h; omega
    ·obtain rfl : j = (lo + hi) / 2 := by omega
     omega⟩ : (∀ j (h : j < l.length), j < lo → l[j].id < x) ∧ (∀ j (h : j < l.length), (lo + hi) / 2 ≤ j → x ≤ l[j].id)))
   generalize l[(lo + hi) / 2] = u at *
   rw [← hme] at x0 x1 x2 x3 m0 HUP HDN
   clear hme hI
   have n0 : (0 : Int) ≤ (m : Int) := by omega
   have n1 : (m : Int) < (l.length : Int) := by omega
   have HLS := Lib.hid (fun W' => lidC_any u p x W')
   unfold lvl at HLS
   have HCI : Hid (Lib.compareInt u.id x < 0 ↔ u.id < x) := Lib.hid (by unfold Lib.compareInt; split <;> (try split) <;> omega)
   generalize Lib.compareInt u.id x = r at *
   by_cases c : u.id < x
   ·have hd := HCI.out.2 c
    have HU2 := Lib.hid (HUP.out c); clear c HUP HDN HCI
    go_wp2_with (go_at_call 129; refine (HLS.out _).mono ?_; rintro e w1 ⟨rfl, hb⟩; have HBl := Lib.hid hb; clear hb)
    go_roundw
    case rel => exact ⟨m + 1, hi, by go_num, rfl, by omega, hin, Lib.hid (by (repeat' first | exact Below.refl _ _ | assumption | (apply below_drewN) | (refine Below.setCell ?_ (by (try simp); (try omega)) _) | (refine Below.alloc ?_ (by (try simp); (try omega)) _) | (refine Below.trans ?_ (Below.mono (Hid.out (by assumption)) (by (try simp); (try omega)))))), HU2.out⟩
    case measure => simp [intOf]; omega
   ·have hd : ¬ r < 0 := fun h => c (HCI.out.1 h)
    have HU2 := Lib.hid (HDN.out c); clear c HUP HDN HCI
    go_wp2_with (go_at_call 129; refine (HLS.out _).mono ?_; rintro e w1 ⟨rfl, hb⟩; have HBl := Lib.hid hb; clear hb)
    go_roundw
    case rel => exact ⟨lo, m, rfl, rfl, c1, by omega, Lib.hid (by (repeat' first | exact Below.refl _ _ | assumption | (apply below_drewN) | (refine Below.setCell ?_ (by (try simp); (try omega)) _) | (refine Below.alloc ?_ (by (try simp); (try omega)) _) | (refine Below.trans ?_ (Below.mono (Hid.out (by assumption)) (by (try simp); (try omega)))))), HU2.out⟩
    case measure => simp [intOf]; omega
  ·obtain rfl : hi = lo := by omega
   have HP := Lib.hid (⟨hin, hI.out.1, hI.out.2⟩ : PosL l x hi)
   clear hI
   by_cases hn : hi < l.length
   ·obtain ⟨b, o, p, rfl, hb, ⟨x0, x1, x2, x3⟩, _⟩ := HL.out.at_ hn
    have wc := fun o => HB.out.cell (p := ⟨b, o, none⟩) hb
    have x0 := (wc _).trans x0; have x1 := (wc _).trans x1; have x2 := (wc _).trans x2; have x3 := (wc _).trans x3
    clear wc
    have n0 : (0 : Int) ≤ (hi : Int) := by omega
    have n1 : (hi : Int) < (l.length : Int) := by omega
    have HE : Hid (isIn l x = decide (l[hi].id = x)) := Lib.hid (by rw [Bool.eq_iff_iff, decide_eq_true_iff, HP.out.mem HASC.out]; exact ⟨fun ⟨_, e⟩ => e, fun e => ⟨hn, e⟩⟩)
    generalize l[hi] = u at *
    have HLS := Lib.hid (fun W' => lidC_any u p x W')
    unfold lvl at HLS
    have HCI : Hid (decide (Lib.compareInt u.id x = 0) = decide (u.id = x)) := Lib.hid (by rw [decide_eq_decide]; unfold Lib.compareInt; split <;> (try split) <;> omega)
    rw [← HCI.out] at HE
    clear HCI
    generalize Lib.compareInt u.id x = r at *
    have hd1 : (hi : Int) < (l.length : Int) := n1
    go_wp2_with (go_at_call 129; refine (HLS.out _).mono ?_; rintro e w1 ⟨rfl, hb⟩; have HBl := Lib.hid hb; clear hb)
    go_ret2
    exact ⟨hi, by rw [HE.out]; first | rfl | (simp; done) | simp_all, HP.out, by (repeat' first | exact Below.refl _ _ | assumption | (apply below_drewN) | (refine Below.setCell ?_ (by (try simp); (try omega)) _) | (refine Below.alloc ?_ (by (try simp); (try omega)) _) | (refine Below.trans ?_ (Below.mono (Hid.out (by assumption)) (by (try simp); (try omega)))))⟩
   ·have HE : Hid (isIn l x = false) := Lib.hid (by
     cases c : isIn l x with
     | false => rfl
     | true => obtain ⟨h1, _⟩ := (HP.out.mem HASC.out).1 c; exact absurd h1 hn)
    have n1 : ¬ (hi : Int) < (l.length : Int) := by omega
    go_wp2
    go_ret2
    exact ⟨hi, by rw [HE.out]; first | rfl | (simp; done) | (simp; omega) | (simp [n1]; done) | simp_all, HP.out, by (repeat' first | exact Below.refl _ _ | assumption | (apply below_drewN) | (refine Below.setCell ?_ (by (try simp); (try omega)) _) | (refine Below.alloc ?_ (by (try simp); (try omega)) _) | (refine Below.trans ?_ (Below.mono (Hid.out (by assumption)) (by (try simp); (try omega)))))⟩
theorem index_any (A : Option Addr) (cap : Nat) (l : List Lt) (x : Int) (w : World) (h : LtIn w A cap l) (ha : AscL l) : Calls Tryz.prog 75 #[.slice A l.length cap, .int .i64 x] w (PosLR l x w) := by
 have HI := Lib.hid (bsl_any A cap l x w h ha); clear h ha
 go_enter Tryz.func75, Tryz.ntmps75
 go_wp2_with fail
 refine HI.out.mono ?_
 rintro e w1 ⟨i, rfl, hi, hb⟩
 have HB1 := Lib.hid hb
 clear hb HI
 go_wp2_with fail
 go_ret2
 exact ⟨i, rfl, hi, HB1.out⟩
theorem there_any (A : Option Addr) (cap : Nat) (l : List Lt) (x : Int) (w : World) (h : LtIn w A cap l) (ha : AscL l) : Calls Tryz.prog 52 #[.slice A l.length cap, .int .i64 x] w (BlIs (isIn l x) w) := by
 have HI := Lib.hid (index_any A cap l x w h ha); clear h ha
 go_enter Tryz.func52, Tryz.ntmps52
 go_wp2_with fail
 refine HI.out.mono ?_
 rintro e w1 ⟨i, rfl, hi, hb⟩
 have HB1 := Lib.hid hb
 clear hb HI hi
 go_wp2_with fail
 go_ret
 exact ⟨rfl, HB1.out⟩
end Go.Proofs.YtngddecpfhlilaaGreat
