/-
  Contracts of the program's layer 6 (16): Shift.
-/
import Derived.Test.YtcnojedijimheaaIj
import Derived.Laws.OwnMore
set_option linter.unusedVariables false
set_option maxRecDepth 100000
namespace Go.Proofs.Ytcnojedijimheaa
open Go.RowKit

def mvR (dx dy : Int) (r : Rc) : Rc := ⟨r.X0 + dx, r.Y0 + dy, r.X1 + dx, r.Y1 + dy⟩
noncomputable def shiftG (l : List Rc) (dx dy : Int) : List Rc × Int :=
  if RegP l then
    if (boundsR l).2 = true ∧ ¬ (staysB (boundsR l).1.X0 (boundsR l).1.X1 dx = true ∧ staysB (boundsR l).1.Y0 (boundsR l).1.Y1 dy = true) then ([], 3) else (l.map (mvR dx dy), 0)
  else ([], 1)
theorem infoRect2 : (Try.prog.info? 41).map (fun i => (i.zero, i.size, i.bytes)) = some (some (.agg #[.int .i64 0, .int .i64 0, .int .i64 0, .int .i64 0]), 4, 32) := by kernel_rfl
theorem made_eq (n : Nat) : madeCells #[.int .i64 0, .int .i64 0, .int .i64 0, .int .i64 0] (n * 4) = (rcells (List.replicate n zR)).toArray := by
  apply Array.ext
  · simp [madeCells, rcells_len]
  · intro i h1 h2
    have hm : ((rcells (List.replicate n zR)).toArray)[i] = .int .i64 0 := by
      have h : ((rcells (List.replicate n zR)).toArray)[i] ∈ rcells (List.replicate n zR) := by simp
      obtain ⟨r, hr, h⟩ := List.mem_flatMap.1 h
      obtain rfl := (List.mem_replicate.1 hr).2
      simpa [zR] using h
    rw [hm]
    have h4 : i % 4 = 0 ∨ i % 4 = 1 ∨ i % 4 = 2 ∨ i % 4 = 3 := by omega
    rcases h4 with h | h | h | h <;> simp [madeCells, h]
theorem mkRs (n : Nat) (h : n ≤ 200) (w : World) : Sem.run Try.prog (Instr.makeSlice 22 (.int .i64 (n : Int)) (.int .i64 (n : Int))) w = .ok (.slice (some ⟨w.heap.size, 0, none⟩) n n) (w.alloc (.cells (rcells (List.replicate n zR)).toArray 41)) := by
  obtain ⟨i, hi, hz, hs, hb⟩ := info_parts infoRect2
  have hr := run_make (P := Try.prog) w 22 41 i _ (by first | rfl | kernel_rfl) hi hz .i64 .i64 n n (by omega) (Int.le_refl _) (by rw [hb]; omega) (by omega)
  rw [hs] at hr
  simp only [Int.toNat_natCast, Value.cells] at hr
  rw [made_eq] at hr
  exact hr
def MV (dx dy : Int) (l : List Rc) (k : Nat) : List Rc := (l.take k).map (mvR dx dy) ++ List.replicate (l.length - k) zR
theorem MV_len (dx dy : Int) (l : List Rc) (k : Nat) (h : k ≤ l.length) : (MV dx dy l k).length = l.length := by simp [MV]; omega
theorem MV_zero (dx dy : Int) (l : List Rc) : MV dx dy l 0 = List.replicate l.length zR := by simp [MV]
theorem MV_all (dx dy : Int) (l : List Rc) : MV dx dy l l.length = l.map (mvR dx dy) := by simp [MV]
theorem MV_next (dx dy : Int) (l : List Rc) (k : Nat) (h : k < l.length) : (MV dx dy l k).set k (mvR dx dy l[k]) = MV dx dy l (k + 1) := by
  have hk : ((l.take k).map (mvR dx dy)).length = k := by simp; omega
  simp only [MV]
  rw [List.set_append_right _ _ (by omega), hk, Nat.sub_self, show l.length - k = (l.length - (k + 1)) + 1 by omega, List.replicate_succ, List.set_cons_zero, List.take_succ_eq_append_getElem h, List.map_append, List.append_assoc]
  rfl
theorem rcells_set4 : ∀ (l : List Rc) (j : Nat) (h : j < l.length) (r : Rc), ((((rcells l).set (j * 4) (.int .i64 r.X0)).set (j * 4 + 1) (.int .i64 r.Y0)).set (j * 4 + 2) (.int .i64 r.X1)).set (j * 4 + 3) (.int .i64 r.Y1) = rcells (l.set j r) := by
  intro l
  induction l with
  | nil => intro j h; simp at h
  | cons a l ih =>
    intro j h r
    cases j with
    | zero => rfl
    | succ j =>
      have := ih j (by simpa using h) r
      rw [show (j + 1) * 4 = j * 4 + 1 + 1 + 1 + 1 by omega, show j * 4 + 1 + 1 + 1 + 1 + 1 = (j * 4 + 1) + 1 + 1 + 1 + 1 by omega, show j * 4 + 1 + 1 + 1 + 1 + 2 = (j * 4 + 2) + 1 + 1 + 1 + 1 by omega, show j * 4 + 1 + 1 + 1 + 1 + 3 = (j * 4 + 3) + 1 + 1 + 1 + 1 by omega]
      show _ :: _ :: _ :: _ :: _ = _ :: _ :: _ :: _ :: rcells (l.set j r)
      rw [← this]; rfl
theorem own_put {w : World} {B g n c : Nat} {L : List Rc} (h : w.ownsRow B 41 4 (.slice (some ⟨g, 0, none⟩) n c) n (rcells L)) (k : Nat) (hk : k < L.length) (r : Rc) :
    ((((w.setCell ⟨g, k * 4, none⟩ (.int .i64 r.X0)).setCell ⟨g, k * 4 + 1, none⟩ (.int .i64 r.Y0)).setCell ⟨g, k * 4 + 2, none⟩ (.int .i64 r.X1)).setCell ⟨g, k * 4 + 3, none⟩ (.int .i64 r.Y1)).ownsRow B 41 4 (.slice (some ⟨g, 0, none⟩) n c) n (rcells (L.set k r)) := by
  rw [← rcells_set4 L k hk r]
  exact ((((h.stored _ _).1.stored _ _).1.stored _ _).1.stored _ _).1

theorem mv_nil (dx dy : Int) : shiftG [] dx dy = ([], 0) ∨ ¬ RegP [] := by
  by_cases h : RegP []
  · left
    have : boundsR [] = (zR, false) := rfl
    simp [shiftG, h, this]
  · exact Or.inr h
/-- what the walk knows of Shift's inner loop. -/
def ShAt (B g n : Nat) (L : List Rc) (w0 w : World) : Prop := w.ownsRow B 41 4 (.slice (some ⟨g, 0, none⟩) n n) n (rcells L) ∧ Below B w0 w ∧ B ≤ g
theorem ShAt.put {B g n : Nat} {L : List Rc} {w0 w : World} (h : ShAt B g n L w0 w) (k : Nat) (hk : k < L.length) (r : Rc) :
    ShAt B g n (L.set k r) w0 ((((w.setCell ⟨g, k * 4, none⟩ (.int .i64 r.X0)).setCell ⟨g, k * 4 + 1, none⟩ (.int .i64 r.Y0)).setCell ⟨g, k * 4 + 2, none⟩ (.int .i64 r.X1)).setCell ⟨g, k * 4 + 3, none⟩ (.int .i64 r.Y1)) :=
  ⟨own_put h.1 k hk r, (((h.2.1.setCell h.2.2 _).setCell h.2.2 _).setCell h.2.2 _).setCell h.2.2 _, h.2.2⟩
theorem ShAt.go {B g n : Nat} {L : List Rc} {w0 w w' : World} (h : ShAt B g n L w0 w) (hb : Below w.heap.size w w') (hB : B ≤ w.heap.size) : ShAt B g n L w0 w' := ⟨own_go h.1 hb, h.2.1.trans (hb.mono hB), h.2.2⟩
set_option maxHeartbeats 16000000 in
theorem gshift_no (A : Option Addr) (cap : Nat) (l : List Rc) (dx dy : Int) (w : World) (hl : RIn w A cap l) (hr : ¬ RegP l) :
    Calls Try.prog 43 #[.slice A l.length cap, .int .i64 dx, .int .i64 dy] w (ResIs (shiftG l dx dy) w) := by
  have HR := Lib.hid (gright_no A cap l w hl.row hl.len hl.room hl.room2 hr)
  rw [show shiftG l dx dy = ([], 1) from if_neg hr]
  clear hr hl
  go_enter Try.func43, Try.ntmps43
  go_wp2_with fail
  refine HR.out.mono ?_
  rintro e1 w1 ⟨rfl, hb1⟩
  have HB1 := Lib.hid hb1; clear hb1
  go_wp2_with fail
  go_ret2
  exact ⟨_, rfl, World.ownsRow_nil _ _ _ _, HB1.out⟩
set_option maxHeartbeats 16000000 in
theorem gshift_range (A : Option Addr) (cap : Nat) (l : List Rc) (dx dy : Int) (w : World) (hl : RIn w A cap l) (hr : RegP l) (b : Rc) (hb : boundsR l = (b, true)) (ho : ROk b) (hs : ¬ (staysB b.X0 b.X1 dx = true ∧ staysB b.Y0 b.Y1 dy = true)) :
    Calls Try.prog 43 #[.slice A l.length cap, .int .i64 dx, .int .i64 dy] w (ResIs (shiftG l dx dy) w) := by
  have HL := Lib.hid hl
  have HR := Lib.hid (gright_yes A cap l w hl.row hl.len hl.room hl.room2 hr)
  have HC := Lib.hid (fun w' (h : Below w.heap.size w w') => tbounds_any A cap l w' (by have := HL.out.len; omega) (HL.out.below h).row)
  rw [hb] at HC
  rw [show shiftG l dx dy = ([], 3) by unfold shiftG; rw [if_pos hr, hb, if_pos ⟨rfl, hs⟩]]
  obtain ⟨⟨o1, o2, o3⟩, o4, o5, o6⟩ := ho
  have HX := Lib.hid (fun w' => gstays_any b.X0 b.X1 dx w' (by omega) (by omega) (by omega) (by omega))
  have HY := Lib.hid (fun w' => gstays_any b.Y0 b.Y1 dy w' (by omega) (by omega) (by omega) (by omega))
  clear hr hl hb o1 o2 o3 o4 o5 o6
  go_enter Try.func43, Try.ntmps43
  go_wp2_with fail
  refine HR.out.mono ?_
  rintro e1 w1 ⟨rfl, hb1⟩
  have HB1 := Lib.hid hb1; clear hb1
  go_wp2_with fail
  refine (HC.out _ HB1.out).mono ?_
  rintro e2 w2 ⟨rfl, hb2⟩
  have HB2 := Lib.hid (HB1.out.trans (hb2.mono HB1.out.size)); clear hb2 HB1
  have K0 : Hid (RcAt (w2.alloc (.cells #[.int .i64 b.X0, .int .i64 b.Y0, .int .i64 b.X1, .int .i64 b.Y1] 41)) w2.heap.size b) := Lib.hid (RcAt.new w2 b _ rfl)
  have HB3 : Hid (Below w.heap.size w (w2.alloc (.cells #[.int .i64 b.X0, .int .i64 b.Y0, .int .i64 b.X1, .int .i64 b.Y1] 41))) := Lib.hid (HB2.out.alloc HB2.out.size _)
  cases hx : staysB b.X0 b.X1 dx with
  | true =>
    have hy : staysB b.Y0 b.Y1 dy = false := by
      cases h : staysB b.Y0 b.Y1 dy with
      | false => rfl
      | true => exact absurd ⟨hx, h⟩ hs
    rw [hx] at HX; rw [hy] at HY
    clear hx hy hs
    go_wp2_with fail
    refine (HX.out _).mono ?_
    rintro e4 w4 ⟨rfl, hb4⟩
    have K4 := Lib.hid (K0.out.below hb4 K0.out.lt)
    have HB4 := Lib.hid (HB3.out.trans (hb4.mono HB3.out.size)); clear hb4 K0 HB2 HB3
    have z0 := K4.out.cell0; have z1 := K4.out.cell1; have z2 := K4.out.cell2; have z3 := K4.out.cell3
    have zl := K4.out.lt
    go_wp2_with fail
    refine (HY.out _).mono ?_
    rintro e5 w5 ⟨rfl, hb5⟩
    have HB5 := Lib.hid (HB4.out.trans (hb5.mono HB4.out.size)); clear hb5 HB4
    go_wp2_with fail
    go_ret2
    exact ⟨_, rfl, World.ownsRow_nil _ _ _ _, HB5.out⟩
  | false =>
    rw [hx] at HX
    clear hx hs
    go_wp2_with fail
    refine (HX.out _).mono ?_
    rintro e4 w4 ⟨rfl, hb4⟩
    have HB4 := Lib.hid (HB3.out.trans (hb4.mono HB3.out.size)); clear hb4 K0 HB2 HB3
    go_wp2_with fail
    go_ret2
    exact ⟨_, rfl, World.ownsRow_nil _ _ _ _, HB4.out⟩
end Go.Proofs.Ytcnojedijimheaa
