/-
  The contract of the reference's Crash (2): the walk.
-/
import Derived.Test.YtbpkcgkcamkggaaGreatDoorT905
import Derived.Deep.RegionHeld3
import Derived.Deep.AppendLies
set_option linter.unusedVariables false
namespace Go.Proofs.YtbpkcgkcamkggaaGreatDoor
open Go.RowKit

theorem and_one (z : Int) : bits .and .i64 z 1 = z % 2 := by
  unfold bits
  simp
  have e : (2 : Int) ^ IntKind.i64.bits = 18446744073709551616 := by decide
  have e2 : (2 : Nat) ^ IntKind.i64.bits = 18446744073709551616 := by decide
  rw [e, e2, show 1 % 18446744073709551616 = 1 from rfl, Nat.and_one_is_mod, IntKind.wrap_i64]
  omega

theorem rAfter_nil (l : List RFile) (keep : List Int) (q : List (Int × Nat)) (h : keep.length = 0) : ∀ i, rAfter l keep q i = l := by
  have hk : keep = [] := List.length_eq_zero_iff.1 h
  subst hk
  intro i
  induction i with
  | zero => rfl
  | succ i ih =>
    rw [rAfter]
    split
    · rw [oddAt_nil, if_neg (by decide)]; exact ih
    · exact ih
theorem rfall_next (l : List RFile) (m : Nat) (h : m < l.length) : (rfall l).take (m + 1) = (rfall l).take m ++ [(l[m].1, l[m].2.2, l[m].2.2)] := by
  rw [List.take_succ_eq_append_getElem (by simpa [rfall] using h)]
  simp [rfall]
theorem rfall_len (l : List RFile) : (rfall l).length = l.length := by simp [rfall]

set_option maxRecDepth 100000 in
set_option maxHeartbeats 8000000 in
theorem rcrash_any (r B : Nat) (s : RSt) (A : Option Addr) (cap : Nat) (keep : List Int) (w : World) (h : RAt r B s w) (hk : KRow B w A keep) (hkl : keep.length ≤ 1099511627776) (hl : s.fl.length ≤ 274877906944) (hql : s.q.length ≤ 274877906944)
    (hbig : FBig s.fl) (hqn : ∀ x ∈ s.q, x.2 ≤ 1099511627776) :
    Calls Tryz.prog 21 #[.pointer (some ⟨r, 0, none⟩), .slice A keep.length cap] w fun e w' => e = .returned (.tuple #[]) ∧ RAt r B (s.crashed keep) w' ∧ RFr B w w' := by
  have hBr : B ≤ r := by obtain ⟨_, _, _, _, _, _, _, h5⟩ := h; exact h5
  obtain ⟨_, _, _, _, _, _, c3, c4, _, hz, _⟩ := h.cells
  have hz3 := hz 3
  have hz4 := hz 4
  cases hd : s.down with
  | true =>
    rw [hd] at c3
    have HX : Hid (s.crashed keep = s) := Lib.hid (by unfold RSt.crashed; rw [if_pos hd])
    have HH := Lib.hid h
    clear h hd hz
    go_enter Tryz.func21, Tryz.ntmps21
    go_wp2
    refine bodyPost_ret (results_none rfl _ _ _) rfl ?_
    rw [HX.out]
    exact ⟨rfl, HH.out, RFr.refl _ _⟩
  | false =>
    rw [hd] at c3
    have HX : Hid (s.crashed keep = { fl := rfall (rAfter s.fl keep s.q s.q.length), q := [], lost := s.lost, down := true, armed := 0, keep := s.keep }) := Lib.hid (by unfold RSt.crashed; rw [if_neg (by rw [hd]; decide)])
    have h1 : RAt r B { s with down := true } (w.setCell ⟨r, 3, none⟩ (.bool true)) := h.setS 3 (.bool true) rfl rfl rfl (fun F Q K => by simp)
    have h2 : RAt r B { s with down := true, armed := 0 } ((w.setCell ⟨r, 3, none⟩ (.bool true)).setCell ⟨r, 4, none⟩ (.int .i64 0)) := h1.setS 4 (.int .i64 0) rfl rfl rfl (fun F Q K => by simp)
    have hf2 : RFr B w ((w.setCell ⟨r, 3, none⟩ (.bool true)).setCell ⟨r, 4, none⟩ (.int .i64 0)) := by
      obtain ⟨_, _, _, g1, _⟩ := h
      obtain ⟨_, _, _, g2, _⟩ := h1
      exact (RFr.of_disk (grown_one _ _ _ _) hBr g1).trans (RFr.of_disk (grown_one _ _ _ _) hBr g2)
    have HK2 := Lib.hid (hk.kept hf2)
    have H2 := Lib.hid h2
    have HF2 := Lib.hid hf2
    have HN := Lib.hid hqn
    have HBG := Lib.hid (rAfter_big s.fl keep s.q hbig)
    have HLN := Lib.hid (rAfter_len s.fl keep s.q)
    have HNX := Lib.hid (rAfter_next s.fl keep s.q)
    have h00 : rAfter s.fl keep s.q 0 = s.fl := rfl
    have HEM : Hid (keep.length = 0 → ∀ i, rAfter s.fl keep s.q i = rAfter s.fl keep s.q s.q.length) := Lib.hid (fun e i => by rw [rAfter_nil _ _ _ e, rAfter_nil _ _ _ e])
    have H00 := Lib.hid h00
    generalize rAfter s.fl keep s.q = O at *
    clear h h1 h2 hf2 hk hd hz hqn hbig h00
    go_enter Tryz.func21, Tryz.ntmps21
    go_wp2
    have hr0 : RAt r B { s with fl := O 0, down := true, armed := 0 } ((w.setCell ⟨r, 3, none⟩ (.bool true)).setCell ⟨r, 4, none⟩ (.int .i64 0)) := by rw [H00.out]; exact H2.out
    go_loopw [4] (fun i wr => ∃ k : Nat, k ≤ s.q.length ∧ i = .int .i64 k ∧ RAt r B { s with fl := O k, down := true, armed := 0 } wr ∧ RFr B w wr ∧ KRow B wr A keep) (fun i _ => s.q.length - (intOf i).toNat)
    case atStart => exact ⟨0, Nat.zero_le _, rfl, hr0, HF2.out, HK2.out⟩
    case round =>
      obtain ⟨k, hk, rfl, hra, hfa, hka⟩ := hrel
      obtain ⟨_, Qv, _, b0, b1, _, _, _, _, bz, bF, bQ, _⟩ := hra.cells
      obtain ⟨AQ, cQ, rfl, hAQ⟩ := own_parts bQ
      have HRA := Lib.hid hra
      have HFA := Lib.hid hfa
      have HKA := Lib.hid hka
      have HAQ := Lib.hid hAQ
      have HF0 := Lib.hid bF
      clear hra hfa hka hAQ bQ hr0 bF
      by_cases hlt : k < s.q.length
      · have hlt' : (k : Int) < (s.q.length : Int) := by omega
        by_cases h0 : 0 < keep.length
        · have h0' : (0 : Int) < (keep.length : Int) := by omega
          obtain ⟨bk, ok, rfl, hbk, hbn, hck⟩ := HKA.out h0
          have hmod : k % keep.length < keep.length := Nat.mod_lt _ h0
          have kc : wr.cell? ⟨bk, ok + k % keep.length, none⟩ = some (.int .i64 (keep.getD (k % keep.length) 0)) := by
            rw [hck _ hmod, List.getD_eq_getElem?_getD, List.getElem?_eq_getElem hmod]; rfl
          obtain ⟨g, rfl, hg, hc⟩ := HAQ.out (by simpa using (by omega : 0 < s.q.length))
          obtain ⟨e0, e1⟩ := qcells_at s.q k hlt
          have k0 : wr.cell? ⟨g, k * 2, none⟩ = some (.int .i64 s.q[k].1) := (hc _ (by simp only; omega)).trans e0
          have k1 : wr.cell? ⟨g, k * 2 + 1, none⟩ = some (.int .i64 (s.q[k].2 : Int)) := (hc _ (by simp only; omega)).trans e1
          clear hc e0 e1 hck
          have hmk0 : (k : Int) % (keep.length : Int) = ((k % keep.length : Nat) : Int) := by omega
          have hnx := HNX.out k hlt
          have HNK := Lib.hid hnx
          clear hnx
          have hod : oddAt keep k = decide (keep.getD (k % keep.length) 0 % 2 = 1) := by
            unfold oddAt
            have : keep.isEmpty = false := by
              cases keep with
              | nil => simp at h0
              | cons a l => rfl
            rw [this]; rfl
          have HOD := Lib.hid hod
          clear hod
          generalize keep.getD (k % keep.length) 0 = kv at *
          obtain ⟨mm, hmm⟩ : ∃ mm, k % keep.length = mm := ⟨_, rfl⟩
          rw [hmm] at hmk0 kc hmod
          have hm0 : (0 : Int) ≤ (mm : Int) := by omega
          have hml : (mm : Int) < (keep.length : Int) := by omega
          clear hmm hmod
          by_cases hodd : kv % 2 = 1
          · have hand : bits .and .i64 kv 1 = 1 := by rw [and_one]; exact hodd
            have HO1 : Hid (O (k + 1) = rset (O k) (rSurv (O k) s.q[k])) := Lib.hid (by rw [HNK.out, HOD.out, if_pos (by simpa using hodd)])
            have hlen := HLN.out k
            have hbk := HBG.out k s.q[k].1
            have hsv := rsurvive_any r B _ s.q[k].1 s.q[k].2 wr HRA.out (by simp only; omega) (HN.out _ (List.getElem_mem hlt)) hbk.1 hbk.2
            have HSV := Lib.hid hsv
            clear hsv hbk hodd
            go_wp2_with fail
            refine HSV.out.mono ?_
            rintro e w5 ⟨rfl, h5, f5⟩
            have H5 : Hid (RAt r B { s with fl := O (k + 1), down := true, armed := 0 } w5) := Lib.hid (by rw [HO1.out]; exact h5)
            have F5 := Lib.hid f5
            clear h5 f5 HSV
            go_wp2
            go_roundw
            case rel => exact ⟨k + 1, by omega, by go_num, H5.out, HFA.out.trans F5.out, HKA.out.kept F5.out⟩
            case measure => simp [intOf]; omega
          · have hand : bits .and .i64 kv 1 = 0 := by rw [and_one]; omega
            have HO1 : Hid (O (k + 1) = O k) := Lib.hid (by rw [HNK.out, HOD.out, if_neg (by simpa using hodd)])
            clear hodd
            go_wp2
            go_roundw
            case rel => exact ⟨k + 1, by omega, by go_num, by rw [HO1.out]; exact HRA.out, HFA.out, HKA.out⟩
            case measure => simp [intOf]; omega
        · have h0' : (keep.length : Int) ≤ 0 := by omega
          have HOX := Lib.hid (HEM.out (by omega) k)
          have hLk := HLN.out k
          have hbF := HF0.out
          obtain ⟨AF, cF, rfl, hAF⟩ := own_parts hbF
          obtain ⟨w0, hw0⟩ : ∃ w0, w0 = wr := ⟨_, rfl⟩
          subst hw0
          have hAF2 : 0 < (O k).length → ∃ g, AF = some ⟨g, 0, none⟩ ∧ g < w0.heap.size ∧ ∀ j, j < (O k).length * 3 → w0.cell? ⟨g, j, none⟩ = (fcells (O k))[j]? := hAF
          have HAF := Lib.hid hAF2
          have hrw := HRA.out.lt
          have bz0 := bz 0
          have bz1 := bz 1
          have b0' : w0.cell? ⟨r, 0, none⟩ = some (.slice AF (O k).length cF) := b0
          clear hAF hAF2 hbF bz HF0 b0
          go_wp2_with fail
          go_loopw [5, 6] (fun v i wx => ∃ m : Nat, m ≤ (O k).length ∧ i = .int .i64 m ∧ wx.ownsRow w0.heap.size 86 3 v m (fcells ((rfall (O k)).take m)) ∧ Below w0.heap.size w0 wx) (fun _ i _ => (O k).length - (intOf i).toNat)
          case atStart => exact ⟨0, Nat.zero_le _, rfl, World.ownsRow_nil _ _ _ _, Below.refl _ _⟩
          case round =>
            obtain ⟨m, hm, rfl, hown, hbx⟩ := hrel
            have HBX := Lib.hid hbx
            have d0 : wr.cell? ⟨r, 0, none⟩ = some (.slice AF (O k).length cF) := (hbx.cell (p := ⟨r, 0, none⟩) hrw).trans b0'
            clear hbx
            by_cases hlm : m < (O k).length
            · obtain ⟨i0, hi9, hz0, hz1, hz2⟩ := info_parts infoFile
              obtain ⟨g, rfl, hg, hc⟩ := HAF.out (by omega)
              obtain ⟨e0, e1, e2⟩ := fcells_at (O k) m hlm
              have kk : ∀ j u, j < (O k).length * 3 → (fcells (O k))[j]? = some u → wr.cell? ⟨g, j, none⟩ = some u := fun j u hj hu =>
                (HBX.out.cell (p := ⟨g, j, none⟩) hg).trans ((hc j hj).trans hu)
              have k0 : wr.cell? ⟨g, m * 3, none⟩ = some (.int .i64 (O k)[m].1) := kk _ _ (by omega) e0
              have k2 : wr.cell? ⟨g, m * 3 + 2, none⟩ = some (.string (O k)[m].2.2) := kk _ _ (by omega) e2
              have HFN := Lib.hid (rfall_next (O k) m hlm)
              clear hc e0 e1 e2 kk
              have hi0 : (0 : Int) ≤ (m : Int) := by omega
              have hi1 : (m : Int) < ((O k).length : Int) := by omega
              generalize (O k)[m] = x at *
              have hrx : r < wr.heap.size := Nat.lt_of_lt_of_le hrw HBX.out.size
              have hgx : g < wr.heap.size := Nat.lt_of_lt_of_le hg HBX.out.size
              have ar : u5.ownBlock ≠ some r := fun e => by have := (hown.lt r e).1; omega
              have ag : u5.ownBlock ≠ some g := fun e => by have := (hown.lt g e).1; omega
              have hbm : (m + 1) * 40 ≤ 140737488355328 := by omega
              have hbn : m + 1 ≤ maxLen := by unfold maxLen; omega
              have hbs : w0.heap.size ≤ wr.heap.size := HBX.out.size
              clear hz3 hz4 c3 c4 b1 bz0 bz1
              go_wp2_with fail
              go_region_held3 (fun w' => w'.cell? ⟨r, 0, none⟩ = some (.slice (some ⟨g, 0, none⟩) (O k).length cF) ∧ w'.cell? ⟨g, m * 3, none⟩ = some (.int .i64 x.1) ∧ w'.cell? ⟨g, m * 3 + 2, none⟩ = some (.string x.2.2))
                (first
                  | go_keep
                  | (go_split_ands
                     refine ⟨?_, ?_, ?_⟩
                     · (rw [hgrow.cell_far _ (by simp; omega) (Ne.symm ar)]; assumption)
                     · (rw [hgrow.cell_far _ (by simp; omega) (Ne.symm ag)]; assumption)
                     · (rw [hgrow.cell_far _ (by simp; omega) (Ne.symm ag)]; assumption)))
                ((refine step_append_lies _ (by rfl) _ _ _ (by rfl) w0.heap.size 86 i0 _ 3 40 Tryz.underlying65 hi9 hz0 hz1 hz2 rfl (by omega) u5 m (fcells ((rfall (O k)).take m)) (by rfl) ((hown.alloc _).drew)
                    ⟨wr.heap.size, 0, none⟩ 1 1 [.int .i64 x.1, .string x.2.2, .string x.2.2] (by rfl) (by rfl) (World.news_of_block (cs := #[.int .i64 x.1, .string x.2.2, .string x.2.2]) (t := 86) (fr := (0, 0)) (heap_alloc_new wr _)) (by simp [Value.oneCell'])
                    (by omega) hbn hbm (by simp; omega) (wr.heap.size + 1) (by simp) ?_; intro gg cg w4 hown4 hgrow hat hlt))
              have HOW : Hid (w4.ownsRow w0.heap.size 86 3 (.slice (some ⟨gg, 0, none⟩) (m + 1) cg) (m + 1) (fcells ((rfall (O k)).take (m + 1)))) := Lib.hid (by
                rw [HFN.out, fcells_append]; exact hown4)
              have HB4 : Hid (Below w0.heap.size w0 w4) := Lib.hid (Below.grown (HBX.out.alloc HBX.out.size (.cells #[.int .i64 x.1, .string x.2.2, .string x.2.2] 86)).drew hgrow (by simp; omega) (fun q hq => (hown.lt q hq).1))
              clear hown4 hgrow hat
              go_wp2
              go_roundw
              case rel => exact ⟨m + 1, by omega, by go_num, HOW.out, HB4.out⟩
              case measure => simp [intOf]; omega
            · obtain rfl : m = (O k).length := by omega
              have hfin : wr.ownsRow B 86 3 u5 (rfall (O k)).length (fcells (rfall (O k))) := by
                have := hown
                rw [List.take_of_length_le (by rw [rfall_len]; exact Nat.le_refl _)] at this
                rw [rfall_len]
                exact own_le this (by omega)
              have hR := HRA.out.below HBX.out
              obtain ⟨A5, c5, rfl, _⟩ := own_parts hfin
              have hf0 : wr.frozen? ⟨r, 0, none⟩ = false := (HBX.out.frozen (p := ⟨r, 0, none⟩) hrw).trans bz0
              have hf1 : wr.frozen? ⟨r, 1, none⟩ = false := (HBX.out.frozen (p := ⟨r, 1, none⟩) hrw).trans bz1
              have hq1 : wr.cell? ⟨r, 1, none⟩ = some _ := (HBX.out.cell (p := ⟨r, 1, none⟩) hrw).trans b1
              have hS1 := hR.setF hfin
              have hS2 := hS1.setQ (q := []) (v := .slice none 0 0) (World.ownsRow_nil _ _ _ _)
              have HS2 := Lib.hid hS2
              obtain ⟨_, _, _, g1, _⟩ := hR
              obtain ⟨_, _, _, g2, _⟩ := hS1
              have HFR := Lib.hid (((HFA.out.trans (RFr.of_below HBX.out)).trans (RFr.of_disk (grown_one _ _ 0 (.slice A5 (rfall (O k)).length c5)) hBr g1)).trans (RFr.of_disk (grown_one _ _ 1 (.slice none 0 0)) hBr g2))
              clear hS2 g1 g2 hfin hown
              go_wp2
              refine bodyPost_end (results_none rfl _ _ _) rfl ?_
              rw [HX.out, ← HOX.out]
              exact ⟨rfl, HS2.out, HFR.out⟩
      · have hlt' : (s.q.length : Int) ≤ (k : Int) := by omega
        have HOX : Hid (O k = O s.q.length) := Lib.hid (by rw [show k = s.q.length by omega])
        have hLk := HLN.out k
        have hbF := HF0.out
        obtain ⟨AF, cF, rfl, hAF⟩ := own_parts hbF
        obtain ⟨w0, hw0⟩ : ∃ w0, w0 = wr := ⟨_, rfl⟩
        subst hw0
        have hAF2 : 0 < (O k).length → ∃ g, AF = some ⟨g, 0, none⟩ ∧ g < w0.heap.size ∧ ∀ j, j < (O k).length * 3 → w0.cell? ⟨g, j, none⟩ = (fcells (O k))[j]? := hAF
        have HAF := Lib.hid hAF2
        have hrw := HRA.out.lt
        have bz0 := bz 0
        have bz1 := bz 1
        have b0' : w0.cell? ⟨r, 0, none⟩ = some (.slice AF (O k).length cF) := b0
        clear hAF hAF2 hbF bz HF0 b0
        go_wp2_with fail
        go_loopw [5, 6] (fun v i wx => ∃ m : Nat, m ≤ (O k).length ∧ i = .int .i64 m ∧ wx.ownsRow w0.heap.size 86 3 v m (fcells ((rfall (O k)).take m)) ∧ Below w0.heap.size w0 wx) (fun _ i _ => (O k).length - (intOf i).toNat)
        case atStart => exact ⟨0, Nat.zero_le _, rfl, World.ownsRow_nil _ _ _ _, Below.refl _ _⟩
        case round =>
          obtain ⟨m, hm, rfl, hown, hbx⟩ := hrel
          have HBX := Lib.hid hbx
          have d0 : wr.cell? ⟨r, 0, none⟩ = some (.slice AF (O k).length cF) := (hbx.cell (p := ⟨r, 0, none⟩) hrw).trans b0'
          clear hbx
          by_cases hlm : m < (O k).length
          · obtain ⟨i0, hi9, hz0, hz1, hz2⟩ := info_parts infoFile
            obtain ⟨g, rfl, hg, hc⟩ := HAF.out (by omega)
            obtain ⟨e0, e1, e2⟩ := fcells_at (O k) m hlm
            have kk : ∀ j u, j < (O k).length * 3 → (fcells (O k))[j]? = some u → wr.cell? ⟨g, j, none⟩ = some u := fun j u hj hu =>
              (HBX.out.cell (p := ⟨g, j, none⟩) hg).trans ((hc j hj).trans hu)
            have k0 : wr.cell? ⟨g, m * 3, none⟩ = some (.int .i64 (O k)[m].1) := kk _ _ (by omega) e0
            have k2 : wr.cell? ⟨g, m * 3 + 2, none⟩ = some (.string (O k)[m].2.2) := kk _ _ (by omega) e2
            have HFN := Lib.hid (rfall_next (O k) m hlm)
            clear hc e0 e1 e2 kk
            have hi0 : (0 : Int) ≤ (m : Int) := by omega
            have hi1 : (m : Int) < ((O k).length : Int) := by omega
            generalize (O k)[m] = x at *
            have hrx : r < wr.heap.size := Nat.lt_of_lt_of_le hrw HBX.out.size
            have hgx : g < wr.heap.size := Nat.lt_of_lt_of_le hg HBX.out.size
            have ar : u5.ownBlock ≠ some r := fun e => by have := (hown.lt r e).1; omega
            have ag : u5.ownBlock ≠ some g := fun e => by have := (hown.lt g e).1; omega
            have hbm : (m + 1) * 40 ≤ 140737488355328 := by omega
            have hbn : m + 1 ≤ maxLen := by unfold maxLen; omega
            have hbs : w0.heap.size ≤ wr.heap.size := HBX.out.size
            clear hz3 hz4 c3 c4 b1 bz0 bz1
            go_wp2_with fail
            go_region_held3 (fun w' => w'.cell? ⟨r, 0, none⟩ = some (.slice (some ⟨g, 0, none⟩) (O k).length cF) ∧ w'.cell? ⟨g, m * 3, none⟩ = some (.int .i64 x.1) ∧ w'.cell? ⟨g, m * 3 + 2, none⟩ = some (.string x.2.2))
              (first
                | go_keep
                | (go_split_ands
                   refine ⟨?_, ?_, ?_⟩
                   · (rw [hgrow.cell_far _ (by simp; omega) (Ne.symm ar)]; assumption)
                   · (rw [hgrow.cell_far _ (by simp; omega) (Ne.symm ag)]; assumption)
                   · (rw [hgrow.cell_far _ (by simp; omega) (Ne.symm ag)]; assumption)))
              ((refine step_append_lies _ (by rfl) _ _ _ (by rfl) w0.heap.size 86 i0 _ 3 40 Tryz.underlying65 hi9 hz0 hz1 hz2 rfl (by omega) u5 m (fcells ((rfall (O k)).take m)) (by rfl) ((hown.alloc _).drew)
                  ⟨wr.heap.size, 0, none⟩ 1 1 [.int .i64 x.1, .string x.2.2, .string x.2.2] (by rfl) (by rfl) (World.news_of_block (cs := #[.int .i64 x.1, .string x.2.2, .string x.2.2]) (t := 86) (fr := (0, 0)) (heap_alloc_new wr _)) (by simp [Value.oneCell'])
                  (by omega) hbn hbm (by simp; omega) (wr.heap.size + 1) (by simp) ?_; intro gg cg w4 hown4 hgrow hat hlt))
            have HOW : Hid (w4.ownsRow w0.heap.size 86 3 (.slice (some ⟨gg, 0, none⟩) (m + 1) cg) (m + 1) (fcells ((rfall (O k)).take (m + 1)))) := Lib.hid (by
              rw [HFN.out, fcells_append]; exact hown4)
            have HB4 : Hid (Below w0.heap.size w0 w4) := Lib.hid (Below.grown (HBX.out.alloc HBX.out.size (.cells #[.int .i64 x.1, .string x.2.2, .string x.2.2] 86)).drew hgrow (by simp; omega) (fun q hq => (hown.lt q hq).1))
            clear hown4 hgrow hat
            go_wp2
            go_roundw
            case rel => exact ⟨m + 1, by omega, by go_num, HOW.out, HB4.out⟩
            case measure => simp [intOf]; omega
          · obtain rfl : m = (O k).length := by omega
            have hfin : wr.ownsRow B 86 3 u5 (rfall (O k)).length (fcells (rfall (O k))) := by
              have := hown
              rw [List.take_of_length_le (by rw [rfall_len]; exact Nat.le_refl _)] at this
              rw [rfall_len]
              exact own_le this (by omega)
            have hR := HRA.out.below HBX.out
            obtain ⟨A5, c5, rfl, _⟩ := own_parts hfin
            have hf0 : wr.frozen? ⟨r, 0, none⟩ = false := (HBX.out.frozen (p := ⟨r, 0, none⟩) hrw).trans bz0
            have hf1 : wr.frozen? ⟨r, 1, none⟩ = false := (HBX.out.frozen (p := ⟨r, 1, none⟩) hrw).trans bz1
            have hq1 : wr.cell? ⟨r, 1, none⟩ = some _ := (HBX.out.cell (p := ⟨r, 1, none⟩) hrw).trans b1
            have hS1 := hR.setF hfin
            have hS2 := hS1.setQ (q := []) (v := .slice none 0 0) (World.ownsRow_nil _ _ _ _)
            have HS2 := Lib.hid hS2
            obtain ⟨_, _, _, g1, _⟩ := hR
            obtain ⟨_, _, _, g2, _⟩ := hS1
            have HFR := Lib.hid (((HFA.out.trans (RFr.of_below HBX.out)).trans (RFr.of_disk (grown_one _ _ 0 (.slice A5 (rfall (O k)).length c5)) hBr g1)).trans (RFr.of_disk (grown_one _ _ 1 (.slice none 0 0)) hBr g2))
            clear hS2 g1 g2 hfin hown
            go_wp2
            refine bodyPost_end (results_none rfl _ _ _) rfl ?_
            rw [HX.out, ← HOX.out]
            exact ⟨rfl, HS2.out, HFR.out⟩

end Go.Proofs.YtbpkcgkcamkggaaGreatDoor
