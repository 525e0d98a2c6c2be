/-
  Mathematics: the boxes of a solid.
  Rows of boxes in memory, as a function that makes one hands it back.
  Contracts of the program's layer 6 (13): Has, with slices.ContainsFunc and slices.IndexFunc at its closure.
  Contracts of the program's layer 9, 3: Has, Volume, Section, Same.
  The laws' examples (small).
  Contracts of the program's layer 9, 4: the closures of Of and both; join.
-/
import Derived.Test.YtdnoadngfkiabaaP901
import Derived.Test.YtdnoadngfkiabaaP912
import Derived.Test.YtdnoadngfkiabaaP910
import Derived.Test.YtdnoadngfkiabaaP913
import Derived.Shelf.Abstract
import Derived.Test.YtdnoadngfkiabaaP915
set_option linter.unusedVariables false
set_option maxRecDepth 100000
namespace Go.Proofs.Ytdnoadngfkiabaa

def boxL (s : Sl) : List Bx := s.ar.map fun r => ⟨r, s.z0, s.z1⟩
def boxesS (S : List Sl) : List Bx := S.flatMap boxL
theorem boxesS_next (S : List Sl) (k : Nat) (h : k < S.length) : boxesS (S.take (k + 1)) = boxesS (S.take k) ++ boxL S[k] := by
  unfold boxesS; rw [List.take_succ_eq_append_getElem h, List.flatMap_append]; simp
theorem boxes_ok {S : List Sl} (h : SForm S) : ∀ b ∈ boxesS S, BOk b := by
  intro b hb
  obtain ⟨s, hs, hb⟩ := List.mem_flatMap.1 hb
  obtain ⟨r, hr, rfl⟩ := List.mem_map.1 hb
  exact ⟨form_ok (h.each s hs).form r hr, (h.each s hs).h⟩
theorem boxes_has {S : List Sl} (h : SForm S) (x y z : Int) : HasB (boxesS S) x y z ↔ HasL (secS S z) x y := by
  constructor
  · rintro ⟨b, hb, hh, h0, h1⟩
    obtain ⟨s, hs, hb⟩ := List.mem_flatMap.1 hb
    obtain ⟨r, hr, rfl⟩ := List.mem_map.1 hb
    rw [sec_at h s hs z h0 h1]
    exact ⟨r, hr, hh⟩
  · intro hh
    have hne : secS S z ≠ [] := by
      intro e; rw [e] at hh; exact no_has x y hh
    obtain ⟨s, hs, h0, h1, e⟩ := sec_mem hne
    rw [← e] at hh
    obtain ⟨r, hr, hh⟩ := hh
    exact ⟨⟨r, s.z0, s.z1⟩, List.mem_flatMap.2 ⟨s, hs, List.mem_map.2 ⟨r, hr, rfl⟩⟩, hh, h0, h1⟩
end Go.Proofs.Ytdnoadngfkiabaa
namespace Go.Proofs.Ytdnoadngfkiabaa
open Go.RowKit

theorem infoBox : (Try.prog.info? 45).map (fun i => (i.zero, i.size, i.bytes)) = some (some (.agg #[.int .i64 0, .int .i64 0, .int .i64 0, .int .i64 0, .int .i64 0, .int .i64 0]), 6, 48) := by kernel_rfl
def bxc (b : Bx) : List Value := [.int .i64 b.r.X0, .int .i64 b.r.Y0, .int .i64 b.r.X1, .int .i64 b.r.Y1, .int .i64 b.z0, .int .i64 b.z1]
def bxcells (l : List Bx) : List Value := l.flatMap bxc
theorem bxcells_append (l m : List Bx) : bxcells (l ++ m) = bxcells l ++ bxcells m := by simp [bxcells]
theorem bxcells_len (l : List Bx) : (bxcells l).length = l.length * 6 := by
  induction l with
  | nil => rfl
  | cons b l ih => rw [show bxcells (b :: l) = bxc b ++ bxcells l from rfl, List.length_append, ih]; simp [bxc]; omega
theorem bxcells_at : ∀ (l : List Bx) (j : Nat) (h : j < l.length), (bxcells l)[j * 6]? = some (.int .i64 l[j].r.X0) ∧ (bxcells l)[j * 6 + 1]? = some (.int .i64 l[j].r.Y0) ∧ (bxcells l)[j * 6 + 2]? = some (.int .i64 l[j].r.X1) ∧ (bxcells l)[j * 6 + 3]? = some (.int .i64 l[j].r.Y1) ∧ (bxcells l)[j * 6 + 4]? = some (.int .i64 l[j].z0) ∧ (bxcells l)[j * 6 + 5]? = some (.int .i64 l[j].z1) := by
  intro l
  induction l with
  | nil => intro j h; exact absurd h (by simp)
  | cons b l ih =>
    intro j h
    have e : bxcells (b :: l) = .int .i64 b.r.X0 :: .int .i64 b.r.Y0 :: .int .i64 b.r.X1 :: .int .i64 b.r.Y1 :: .int .i64 b.z0 :: .int .i64 b.z1 :: bxcells l := rfl
    rw [e]
    cases j with
    | zero => exact ⟨rfl, rfl, rfl, rfl, rfl, rfl⟩
    | succ j =>
      obtain ⟨h0, h1, h2, h3, h4, h5⟩ := ih j (by simp at h; omega)
      rw [show (j + 1) * 6 = j * 6 + 1 + 1 + 1 + 1 + 1 + 1 by omega]
      simp only [List.getElem?_cons_succ, List.getElem_cons_succ]
      exact ⟨h0, h1, h2, h3, h4, h5⟩
theorem own_boxes {w : World} {B : Nat} {v : Value} {l : List Bx} (h : w.ownsRow B 45 6 v l.length (bxcells l)) : ∃ A cap, v = .slice A l.length cap ∧ BxRow w A l ∧ l.length ≤ cap ∧ cap ≤ 9223372036854775807 := by
  have hh := h
  have hlt := h.lt
  obtain ⟨h1, h2⟩ := h
  rcases h2 with ⟨rfl, h3⟩ | ⟨g, cap, cur, rfl, hB, hg, h4⟩
  · exact ⟨none, 0, by rw [h3], fun h => by omega, by omega, by omega⟩
  · refine ⟨_, cap, rfl, fun h0 => ⟨g, 0, rfl, (hlt g rfl).2, fun j hj => ?_⟩, h4.1, by have := h4.2.1; unfold maxLen at this; omega⟩
    have c := fun i (hi : i < l.length * 6) => World.ownsRow.cellAt hh i hi
    obtain ⟨e0, e1, e2, e3, e4, e5⟩ := bxcells_at l j hj
    rw [Nat.zero_add]
    exact ⟨(c _ (by omega)).trans e0, (c _ (by omega)).trans e1, (c _ (by omega)).trans e2, (c _ (by omega)).trans e3, (c _ (by omega)).trans e4, (c _ (by omega)).trans e5⟩
def BxRes (F : List Bx) (w : World) (e : Ending) (w' : World) : Prop := ∃ v, e = .returned v ∧ w'.ownsRow w.heap.size 45 6 v F.length (bxcells F) ∧ Below w.heap.size w w'
structure QW (v : Value) (F : List Bx) (w wr : World) : Prop where
  own : wr.ownsRow w.heap.size 45 6 v F.length (bxcells F)
  bel : Below w.heap.size w wr
end Go.Proofs.Ytdnoadngfkiabaa
namespace Go.Proofs.Ytdnoadngfkiabaa
open Go.RowKit

theorem rok_in {r : Rc} (h : ROk r) : InR r := by
  obtain ⟨⟨a, b, c⟩, d, e, f⟩ := h
  refine ⟨?_, ?_, ?_, ?_⟩ <;> constructor <;> omega
set_option maxHeartbeats 4000000 in
theorem ghasC_any (r : Rc) (x y : Int) (b1 b2 : Nat) (w : World) (hr : ROk r) (h1 : w.cell? ⟨b1, 0, none⟩ = some (.int .i64 x)) (h2 : w.cell? ⟨b2, 0, none⟩ = some (.int .i64 y)) (z1 : b1 < w.heap.size) (z2 : b2 < w.heap.size) :
    Calls Try.prog 57 #[.agg #[.int .i64 r.X0, .int .i64 r.Y0, .int .i64 r.X1, .int .i64 r.Y1], .pointer (some ⟨b1, 0, none⟩), .pointer (some ⟨b2, 0, none⟩)] w (BlIs (decide (HasR r x y)) w) := by
  have HH := Lib.hid (fun w' => thas_any r x y (rok_in hr) w')
  clear hr
  generalize decide (HasR r x y) = d at *
  go_enter Try.func57, Try.ntmps57
  go_wp2_with (go_at_call 58; refine (HH.out _).mono ?_; rintro e w1 ⟨rfl, hb⟩; obtain ⟨hc, hf⟩ := bcell hb; have hz := hb.size; (try simp at hz); have hz0 : w.heap.size < w1.heap.size := (by omega); have HBl := Lib.hid hb; clear hb)
  go_ret
  exact ⟨rfl, by (repeat' first | exact Below.refl _ _ | assumption | (apply below_drewN) | (refine Below.setCell ?_ (by (try simp); (try omega)) _) | (refine Below.alloc ?_ (by (try simp); (try omega)) _) | (refine Below.trans ?_ (Below.mono (Hid.out (by assumption)) (by (try simp); (try omega)))))⟩
def IdxIs (l : List Rc) (x y : Int) (w : World) (e : Ending) (w' : World) : Prop := ∃ i : Int, e = .returned (.int .i64 i) ∧ (0 ≤ i ↔ HasL l x y) ∧ Below w.heap.size w w'
set_option maxHeartbeats 8000000 in
theorem gidx_any (A : Option Addr) (cap : Nat) (l : List Rc) (x y : Int) (b1 b2 : Nat) (w : World) (hl : RIn w A cap l) (hok : ∀ r ∈ l, ROk r) (h1 : w.cell? ⟨b1, 0, none⟩ = some (.int .i64 x)) (h2 : w.cell? ⟨b2, 0, none⟩ = some (.int .i64 y)) (z1 : b1 < w.heap.size) (z2 : b2 < w.heap.size) :
    Calls Try.prog 76 #[.slice A l.length cap, .func (.func 57) #[] #[.pointer (some ⟨b1, 0, none⟩), .pointer (some ⟨b2, 0, none⟩)]] w (IdxIs l x y w) := by
  have HL := Lib.hid hl; clear hl
  have HOK := Lib.hid hok; clear hok
  have HC := Lib.hid (fun (w' : World) (hb : Below w.heap.size w w') (r : Rc) (hr : ROk r) => ghasC_any r x y b1 b2 w' hr ((hb.cell z1).trans h1) ((hb.cell z2).trans h2) (Nat.lt_of_lt_of_le z1 hb.size) (Nat.lt_of_lt_of_le z2 hb.size))
  clear h1 h2 z1 z2
  have HB0 := Lib.hid (Below.refl w.heap.size w)
  go_enter Try.func76, Try.ntmps76
  go_wp2
  go_loopw [8] (fun i wr => ∃ (k : Nat), k ≤ l.length ∧ i = .int .i64 k ∧ Hid (Below w.heap.size w wr) ∧ ∀ j (h : j < l.length), j < k → ¬ HasR l[j] x y) (fun i _ => l.length - (intOf i).toNat)
  case atStart => exact ⟨0, Nat.zero_le _, rfl, HB0, fun j h hj => absurd hj (Nat.not_lt_zero _)⟩
  case round =>
    clear HB0
    obtain ⟨k, hk, rfl, HB, ht⟩ := hrel
    have HT := Lib.hid ht; clear ht
    by_cases hlt : k < l.length
    · obtain ⟨ba, oa, rfl, hba, hva⟩ := HL.out.row (by omega)
      obtain ⟨x0, x1, x2, x3⟩ := hva k hlt
      have eu : ∃ u, u = l[k] := ⟨_, rfl⟩
      obtain ⟨u, hu⟩ := eu
      have hr : ROk u := hu ▸ HOK.out _ (List.getElem_mem hlt)
      rw [← hu] at x0 x1 x2 x3
      have HU := Lib.hid hu; clear hu
      have HC2 := Lib.hid (fun w' hb => HC.out w' hb u hr); clear hr
      have i0 : (0 : Int) ≤ (k : Int) := by omega
      have i1 : (k : Int) < (l.length : Int) := by omega
      clear hva
      have wc := fun o => HB.out.cell (p := ⟨ba, o, none⟩) hba
      have x0 := (wc _).trans x0; have x1 := (wc _).trans x1; have x2 := (wc _).trans x2; have x3 := (wc _).trans x3
      clear wc
      have hbs := HB.out.size
      have hlen := HL.out.len
      by_cases c : HasR u x y
      · have HY : Hid (0 ≤ (k : Int) ↔ HasL l x y) := Lib.hid ⟨fun _ => ⟨u, by rw [HU.out]; exact List.getElem_mem hlt, c⟩, fun _ => by omega⟩
        have HD := Lib.hid (decide_eq_true c); clear c
        go_wp2_with (go_at_call 57; refine (HC2.out _ (by (repeat' first | exact Below.refl _ _ | assumption | (apply below_drewN) | (refine Below.setCell ?_ (by (try simp); (try omega)) _) | (refine Below.alloc ?_ (by (try simp); (try omega)) _) | (refine Below.trans ?_ (Below.mono (Hid.out (by assumption)) (by (try simp); (try omega))))))).mono ?_; rw [HD.out]; rintro e w1 ⟨rfl, hb⟩; have HBl := Lib.hid hb; clear hb)
        go_ret
        exact ⟨_, rfl, HY.out, by (repeat' first | exact Below.refl _ _ | assumption | (apply below_drewN) | (refine Below.setCell ?_ (by (try simp); (try omega)) _) | (refine Below.alloc ?_ (by (try simp); (try omega)) _) | (refine Below.trans ?_ (Below.mono (Hid.out (by assumption)) (by (try simp); (try omega)))))⟩
      · have HN : Hid (∀ j (h : j < l.length), j < k + 1 → ¬ HasR l[j] x y) := Lib.hid (fun j h hj => by
          by_cases e : j < k
          · exact HT.out j h e
          · obtain rfl : j = k := by omega
            rw [← HU.out]; exact c)
        have HD := Lib.hid (decide_eq_false c); clear c
        go_wp2_with (go_at_call 57; refine (HC2.out _ (by (repeat' first | exact Below.refl _ _ | assumption | (apply below_drewN) | (refine Below.setCell ?_ (by (try simp); (try omega)) _) | (refine Below.alloc ?_ (by (try simp); (try omega)) _) | (refine Below.trans ?_ (Below.mono (Hid.out (by assumption)) (by (try simp); (try omega))))))).mono ?_; rw [HD.out]; rintro e w1 ⟨rfl, hb⟩; have HBl := Lib.hid hb; clear hb)
        go_roundw
        case rel => exact ⟨k + 1, by omega, by go_num, Lib.hid (by (repeat' first | exact Below.refl _ _ | assumption | (apply below_drewN) | (refine Below.setCell ?_ (by (try simp); (try omega)) _) | (refine Below.alloc ?_ (by (try simp); (try omega)) _) | (refine Below.trans ?_ (Below.mono (Hid.out (by assumption)) (by (try simp); (try omega)))))), HN.out⟩
        case measure => simp [intOf]; omega
    · obtain rfl : k = l.length := by omega
      have HY : Hid (0 ≤ (-1 : Int) ↔ HasL l x y) := Lib.hid ⟨fun h => absurd h (by decide), fun ⟨r, hr, h⟩ => by
        obtain ⟨j, hj, rfl⟩ := List.mem_iff_getElem.1 hr
        exact absurd h (HT.out j hj hj)⟩
      go_wp2
      go_ret
      exact ⟨_, rfl, HY.out, HB.out⟩
set_option maxHeartbeats 8000000 in
theorem gcf_any (A : Option Addr) (cap : Nat) (l : List Rc) (x y : Int) (b1 b2 : Nat) (w : World) (hl : RIn w A cap l) (hok : ∀ r ∈ l, ROk r) (h1 : w.cell? ⟨b1, 0, none⟩ = some (.int .i64 x)) (h2 : w.cell? ⟨b2, 0, none⟩ = some (.int .i64 y)) (z1 : b1 < w.heap.size) (z2 : b2 < w.heap.size) :
    Calls Try.prog 56 #[.slice A l.length cap, .func (.func 57) #[] #[.pointer (some ⟨b1, 0, none⟩), .pointer (some ⟨b2, 0, none⟩)]] w (BlIs (hasB l x y) w) := by
  have HI := Lib.hid (gidx_any A cap l x y b1 b2 w hl hok h1 h2 z1 z2)
  clear hl hok h1 h2 z1 z2
  go_enter Try.func56, Try.ntmps56
  go_wp2_with (go_at_call 76; refine HI.out.mono ?_; rintro e w1 ⟨i, rfl, hi, hb⟩; have HBl := Lib.hid hb; clear hb)
  go_ret
  refine ⟨?_, by (repeat' first | exact Below.refl _ _ | assumption | (apply below_drewN) | (refine Below.setCell ?_ (by (try simp); (try omega)) _) | (refine Below.alloc ?_ (by (try simp); (try omega)) _) | (refine Below.trans ?_ (Below.mono (Hid.out (by assumption)) (by (try simp); (try omega)))))⟩
  have : decide (0 ≤ i) = hasB l x y := by
    rw [Bool.eq_iff_iff, hasB_iff, decide_eq_true_iff]; exact hi
  rw [← this]; rfl
noncomputable def hasRg (l : List Rc) (x y : Int) : Bool := @decide (RegP l) (Classical.propDecidable _) && hasB l x y
set_option maxHeartbeats 8000000 in
theorem ghas_any (A : Option Addr) (cap : Nat) (l : List Rc) (x y : Int) (w : World) (hl : RIn w A cap l) :
    Calls Try.prog 39 #[.slice A l.length cap, .int .i64 x, .int .i64 y] w (BlIs (hasRg l x y) w) := by
  have HL := Lib.hid hl; clear hl
  by_cases hr : RegP l
  · have HR := Lib.hid (fun w' (h : Below w.heap.size w w') => gright_yes A cap l w' (HL.out.below h).row HL.out.len HL.out.room HL.out.room2 hr)
    have HC := Lib.hid (fun w' (h : Below w.heap.size w w') b1 b2 h1 h2 z1 z2 => gcf_any A cap l x y b1 b2 w' (HL.out.below h) (form_ok hr.1) h1 h2 z1 z2)
    rw [show hasRg l x y = hasB l x y by unfold hasRg; rw [decide_eq_true hr, Bool.true_and]]
    clear hr
    go_enter Try.func39, Try.ntmps39
    go_wp2_with fail
    refine (HR.out _ (by (repeat' first | exact Below.refl _ _ | assumption | (apply below_drewN) | (refine Below.setCell ?_ (by (try simp); (try omega)) _) | (refine Below.alloc ?_ (by (try simp); (try omega)) _) | (refine Below.trans ?_ (Below.mono (Hid.out (by assumption)) (by (try simp); (try omega))))))).mono ?_
    rintro e1 w1 ⟨rfl, hb1⟩
    have HB1 := Lib.hid hb1; clear hb1
    go_wp2_with fail
    have HBW := Lib.hid ((((Below.refl w.heap.size w).alloc (Nat.le_refl _) (Obj.cells #[Value.int IntKind.i64 x] 3)).alloc (by simp <;> omega) (Obj.cells #[Value.int IntKind.i64 y] 3)).trans (HB1.out.mono (by simp <;> omega)))
    have z1 := HB1.out.size
    refine (HC.out w1 HBW.out _ _ ?_ ?_ ?_ ?_).mono ?_
    · exact (HB1.out.cell (p := ⟨w.heap.size, 0, none⟩) (by simp <;> omega)).trans (((Below.refl _ (w.alloc (Obj.cells #[Value.int IntKind.i64 x] 3))).alloc (Nat.le_refl _) (Obj.cells #[Value.int IntKind.i64 y] 3)).cell (p := ⟨w.heap.size, 0, none⟩) (by simp) |>.trans (by rw [Lib.cell_of_heap (heap_alloc_new w _)]; rfl))
    · exact (HB1.out.cell (p := ⟨w.heap.size + 1, 0, none⟩) (by simp)).trans (by rw [show w.heap.size + 1 = (w.alloc (Obj.cells #[Value.int IntKind.i64 x] 3)).heap.size by simp, Lib.cell_of_heap (heap_alloc_new _ _)]; rfl)
    · simp at z1 ⊢; omega
    · simp at z1 ⊢; omega
    rintro e2 w2 ⟨rfl, hb2⟩
    have HB2 := Lib.hid (HBW.out.trans (hb2.mono HBW.out.size)); clear hb2 HB1 HBW z1
    go_wp2_with fail
    go_ret
    exact ⟨rfl, HB2.out⟩
  · have HR := Lib.hid (fun w' (h : Below w.heap.size w w') => gright_no A cap l w' (HL.out.below h).row HL.out.len HL.out.room HL.out.room2 hr)
    rw [show hasRg l x y = false by unfold hasRg; rw [decide_eq_false hr, Bool.false_and]]
    clear hr
    go_enter Try.func39, Try.ntmps39
    go_wp2_with fail
    refine (HR.out _ (by (repeat' first | exact Below.refl _ _ | assumption | (apply below_drewN) | (refine Below.setCell ?_ (by (try simp); (try omega)) _) | (refine Below.alloc ?_ (by (try simp); (try omega)) _) | (refine Below.trans ?_ (Below.mono (Hid.out (by assumption)) (by (try simp); (try omega))))))).mono ?_
    rintro e1 w1 ⟨rfl, hb1⟩
    have HB1 := Lib.hid hb1; clear hb1
    go_wp2_with fail
    have HBW := Lib.hid ((((Below.refl w.heap.size w).alloc (Nat.le_refl _) (Obj.cells #[Value.int IntKind.i64 x] 3)).alloc (by simp <;> omega) (Obj.cells #[Value.int IntKind.i64 y] 3)).trans (HB1.out.mono (by simp <;> omega)))
    go_ret
    exact ⟨rfl, HBW.out⟩
end Go.Proofs.Ytdnoadngfkiabaa
namespace Go.Proofs.Ytdnoadngfkiabaa
open Go.RowKit

theorem bright_yes {A : Option Addr} {cap : Nat} {S : List Sl} {w : World} (h : SIn w A cap S) (hs : SolP S) : Calls Try.prog 28 #[.slice A S.length cap] w (BlIs true w) :=
  (bright_any A cap S w h).mono fun e w' ⟨b, hb, h'⟩ => by obtain rfl := hb.2 hs; exact h'
theorem bright_no {A : Option Addr} {cap : Nat} {S : List Sl} {w : World} (h : SIn w A cap S) (hs : ¬ SolP S) : Calls Try.prog 28 #[.slice A S.length cap] w (BlIs false w) :=
  (bright_any A cap S w h).mono fun e w' ⟨b, hb, h'⟩ => by
    cases b with
    | false => exact h'
    | true => exact absurd (hb.1 rfl) hs
/-! ### the volume -/
def Vx (p : Nat) (u : Sl) (A : Option Addr) (c : Nat) (w0 w : World) : Prop := w.cell? ⟨p, 0, none⟩ = some (.int .i64 u.z0) ∧ w.cell? ⟨p, 1, none⟩ = some (.int .i64 u.z1) ∧ w.cell? ⟨p, 2, none⟩ = some (.slice A u.ar.length c) ∧ p < w.heap.size ∧ Hid (Below w0.heap.size w0 w)
theorem Vx.go {p : Nat} {u : Sl} {A : Option Addr} {c : Nat} {w0 w w' : World} (h : Vx p u A c w0 w) (hb : Below w.heap.size w w') : Vx p u A c w0 w' := by
  obtain ⟨h0, h1, h2, h6, h8⟩ := h
  have cp := fun i => hb.cell (p := ⟨p, i, none⟩) h6
  exact ⟨(cp _).trans h0, (cp _).trans h1, (cp _).trans h2, Nat.lt_of_lt_of_le h6 hb.size, Lib.hid (h8.out.trans (hb.mono h8.out.size))⟩
theorem Vx.drewN {p : Nat} {u : Sl} {A : Option Addr} {c : Nat} {w0 w : World} (h : Vx p u A c w0 w) (n : Nat) : Vx p u A c w0 (w.drewN n) := h.go (below_drewN (Below.refl _ _) n)
noncomputable def volG (S : List Sl) : Int := @ite _ (SolP S) (Classical.propDecidable _) (volS S) 0
end Go.Proofs.Ytdnoadngfkiabaa
namespace Go.Proofs.Ytdnoadngfkiabaa
open Go.RowKit

/-- a result that can be read: a region's list and an error. -/
def RR (l : List Rc) (n : Nat) (er : Int) (w : World) (e : Ending) (w' : World) : Prop := ∃ A c, e = .returned (.tuple #[.slice A n c, .int .i64 er]) ∧ RIn w' A c l ∧ Below w.heap.size w w'
theorem ResIs.rr {x : List Rc × Int} {w : World} {e : Ending} {w' : World} (h : ResIs x w e w') (hl : x.1.length ≤ 1099511627776) : RR x.1 x.1.length x.2 w e w' := by
  obtain ⟨v, rfl, h1, h2⟩ := h
  obtain ⟨A, cap, rfl, r1, r2, r3, _⟩ := own_rects h1
  exact ⟨A, cap, rfl, ⟨r1, hl, r2, r3⟩, h2⟩
/-- a block of rectangles. -/
def RB (w : World) (b : Nat) (l : List Rc) : Prop := w.heap[b]? = some (.cells (rcells l).toArray 43 (0, 0))
theorem RB.lt {w : World} {b : Nat} {l : List Rc} (h : RB w b l) : b < w.heap.size := (Array.getElem?_eq_some_iff.1 h).1
theorem RB.below {w w' : World} {b : Nat} {l : List Rc} (h : RB w b l) (hb : Below w.heap.size w w') : RB w' b l := (hb.block b h.lt).trans h
theorem RB.row {w : World} {b : Nat} {l : List Rc} (h : RB w b l) (hl : l.length ≤ 1099511627776) : RIn w (some ⟨b, 0, none⟩) l.length l := by
  refine ⟨fun _ => ⟨b, 0, rfl, h.lt, fun j hj => ?_⟩, hl, Nat.le_refl _, by omega⟩
  obtain ⟨e0, e1, e2, e3⟩ := rcells_at l j hj
  rw [Nat.zero_add]
  have c := fun i v (hv : (rcells l)[i]? = some v) => show w.cell? ⟨b, i, none⟩ = some v by
    rw [Lib.cell_of_heap h]; simpa using hv
  exact ⟨c _ _ e0, c _ _ e1, c _ _ e2, c _ _ e3⟩
theorem RB.new (w : World) (l : List Rc) (o : Array Value) (ho : o = (rcells l).toArray) : RB (w.alloc (.cells o 43)) w.heap.size l := by subst ho; exact heap_alloc_new w _
/-- what the walk keeps: blocks of rectangles, lists at slices, and that nothing that was there has turned. -/
def SK (L : List (Nat × List Rc)) (M : List (Option Addr × Nat × List Rc)) (w0 w : World) : Prop := (∀ p ∈ L, RB w p.1 p.2) ∧ (∀ p ∈ M, RIn w p.1 p.2.1 p.2.2) ∧ Below w0.heap.size w0 w
theorem SK.go {L : List (Nat × List Rc)} {M : List (Option Addr × Nat × List Rc)} {w0 w w' : World} (h : SK L M w0 w) (hb : Below w.heap.size w w') : SK L M w0 w' :=
  ⟨fun p hp => (h.1 p hp).below hb, fun p hp => (h.2.1 p hp).below hb, h.2.2.trans (hb.mono h.2.2.size)⟩
theorem SK.new {L : List (Nat × List Rc)} {M : List (Option Addr × Nat × List Rc)} {w0 w : World} (h : SK L M w0 w) (l : List Rc) (o : Array Value) (ho : o = (rcells l).toArray) (k : Nat) (hk : k = w.heap.size) : SK ((k, l) :: L) M w0 (w.alloc (.cells o 43)) := by
  subst hk
  have hg : Below w.heap.size w (w.alloc (.cells o 43)) := (Below.refl _ _).alloc (Nat.le_refl _) _
  have h2 := h.go hg
  refine ⟨fun p hp => ?_, h2.2⟩
  rcases List.mem_cons.1 hp with rfl | hp
  · exact RB.new w l o ho
  · exact h2.1 p hp
theorem SK.add {L : List (Nat × List Rc)} {M : List (Option Addr × Nat × List Rc)} {w0 w w' : World} (h : SK L M w0 w) (hb : Below w.heap.size w w') {A : Option Addr} {c : Nat} {l : List Rc} (hr : RIn w' A c l) : SK L ((A, c, l) :: M) w0 w' := by
  have h2 := h.go hb
  refine ⟨h2.1, fun p hp => ?_, h2.2.2⟩
  rcases List.mem_cons.1 hp with rfl | hp
  · exact hr
  · exact h2.2.1 p hp
end Go.Proofs.Ytdnoadngfkiabaa
namespace Go.Proofs.Ytdnoadngfkiabaa
open Go.RowKit

set_option maxHeartbeats 4000000 in
theorem bofC_any (bl : Nat) (A : Option Addr) (cap : Nat) (l : List Bx) (z : Int) (w : World) (hc : w.cell? ⟨bl, 0, none⟩ = some (.slice A l.length cap)) (hbl : bl < w.heap.size) (h : BxRow w A l) (hok : ∀ b ∈ l, BOk b) (hl : l.length ≤ 200) :
    Calls Try.prog 35 #[.int .i64 z, .pointer (some ⟨bl, 0, none⟩)] w (ResIs (capR (secB l z)) w) := by
  have HB := Lib.hid (bbases_any A cap l z w h (by omega))
  have hbl2 := bases_len l z
  have EQ : Hid (ofR (basesB l z) = capR (secB l z)) := Lib.hid (by unfold ofR secB; rw [if_pos (bases_ok hok z), if_pos (by omega)])
  have HG := Lib.hid (fun (A' : Option Addr) (c' : Nat) (w' : World) (hr : RRow w' A' (basesB l z)) => gof_any A' c' (basesB l z) w' hr (by omega))
  clear h hok hl hbl2
  go_enter Try.func35, Try.ntmps35
  go_wp2_with fail
  refine HB.out.mono ?_
  rintro e1 w1 ⟨v1, rfl, ho1, hb1⟩
  obtain ⟨A1, c1, rfl, hr1, _⟩ := own_rects ho1
  have HB1 := Lib.hid hb1
  have HG1 := Lib.hid (HG.out A1 c1 w1 hr1)
  rw [EQ.out] at HG1
  clear ho1 hr1 hb1 HG HB EQ
  generalize (basesB l z).length = nn at *
  go_wp2_with fail
  refine HG1.out.mono ?_
  rintro e w3 hf
  obtain ⟨A3, c3, rfl, h2, h3⟩ := hf.parts
  have HR : Hid (ResIs (capR (secB l z)) w (.returned (.tuple #[.slice A3 (capR (secB l z)).1.length c3, .int .i64 (capR (secB l z)).2])) w3) := Lib.hid ⟨_, rfl, own_base h2 HB1.out.size, HB1.out.trans (h3.mono HB1.out.size)⟩
  clear hf h2 h3 HG1
  generalize (capR (secB l z)).1.length = n2 at *
  generalize (capR (secB l z)).2 = e2 at *
  go_wp2_with fail
  go_ret2
  exact HR.out
/-! ### both's closure -/
def Zx (bo ba bb K : Nat) (A1 : Option Addr) (n1 c1 : Nat) (A2 : Option Addr) (n2 c2 : Nat) (w0 w : World) : Prop := w.cell? ⟨bo, 0, none⟩ = some (.func (.func K) #[] #[]) ∧ w.cell? ⟨ba, 0, none⟩ = some (.slice A1 n1 c1) ∧ w.cell? ⟨bb, 0, none⟩ = some (.slice A2 n2 c2) ∧ bo < w.heap.size ∧ ba < w.heap.size ∧ bb < w.heap.size ∧ Hid (Below w0.heap.size w0 w)
theorem Zx.go {bo ba bb K : Nat} {A1 : Option Addr} {n1 c1 : Nat} {A2 : Option Addr} {n2 c2 : Nat} {w0 w w' : World} (h : Zx bo ba bb K A1 n1 c1 A2 n2 c2 w0 w) (hb : Below w.heap.size w w') : Zx bo ba bb K A1 n1 c1 A2 n2 c2 w0 w' := by
  obtain ⟨h0, h1, h2, h3, h4, h5, h8⟩ := h
  exact ⟨(hb.cell (p := ⟨bo, 0, none⟩) h3).trans h0, (hb.cell (p := ⟨ba, 0, none⟩) h4).trans h1, (hb.cell (p := ⟨bb, 0, none⟩) h5).trans h2, Nat.lt_of_lt_of_le h3 hb.size, Nat.lt_of_lt_of_le h4 hb.size, Nat.lt_of_lt_of_le h5 hb.size, Lib.hid (h8.out.trans (hb.mono h8.out.size))⟩
theorem Zx.drewN {bo ba bb K : Nat} {A1 : Option Addr} {n1 c1 : Nat} {A2 : Option Addr} {n2 c2 : Nat} {w0 w : World} (h : Zx bo ba bb K A1 n1 c1 A2 n2 c2 w0 w) (n : Nat) : Zx bo ba bb K A1 n1 c1 A2 n2 c2 w0 (w.drewN n) := h.go (below_drewN (Below.refl _ _) n)
end Go.Proofs.Ytdnoadngfkiabaa
