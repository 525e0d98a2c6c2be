/-
  The contract of the program's Crash.
-/
import Derived.Test.YtbpkcgkcamkggaaGreatDoorT920
set_option linter.unusedVariables false
set_option maxRecDepth 100000
namespace Go.Proofs.YtbpkcgkcamkggaaGreatDoor
open Go.RowKit

theorem odd_of {kv : Int} (h : kv % 2 = 1) : (kv.tmod 2 != 0) = true := by
  have : kv.tmod 2 ≠ 0 := by
    intro e
    have := Int.dvd_of_tmod_eq_zero e
    omega
  simpa using this
theorem even_of {kv : Int} (h : ¬ kv % 2 = 1) : (kv.tmod 2 != 0) = false := by
  have : kv.tmod 2 = 0 := Int.tmod_eq_zero_of_dvd (by omega)
  simpa using this

/-- i sectors have been looked at. -/
def SaveAt (r : Nat) (L : Lay) (d : Dk) (keep : List Int) (i : Nat) (w wr : World) : Prop :=
  ∃ L', PRaw r L' { d with last := fallAt d keep i } d.q wr ∧ CStep L L' w wr ∧ L'.m = L.m

set_option maxRecDepth 100000 in
set_option maxHeartbeats 4000000 in
theorem crash_any (r : Nat) (L : Lay) (d : Dk) (kv : Value) (keep : List Int) (w : World) (h : PAt r L d w) (ho : Dk.Ok d) (hk : KRd r L w kv keep) (hkl : keep.length ≤ 1099511627776) (hq : d.q.length ≤ 549755813888) :
    Calls Tryz.prog 20 #[.pointer (some ⟨r, 0, none⟩), kv] w (Left r L (pcrash d keep) (.tuple #[]) w) := by
  obtain ⟨Ak, capk, rfl, hkc⟩ := hk
  obtain ⟨c0, c1, _, _, _, _, c6, _⟩ := h.raw.cells
  cases hd : d.down with
  | true =>
    have HX : Hid (Left r L (pcrash d keep) (.tuple #[]) w (.returned (.tuple #[])) w) := Lib.hid (by unfold pcrash; rw [if_pos hd]; exact left_same h)
    rw [hd] at c6
    clear h hd hkc
    go_enter Tryz.func20, Tryz.ntmps20
    go_wp2
    refine bodyPost_ret (results_none rfl _ _ _) rfl ?_
    exact HX.out
  | false =>
    rw [hd] at c6
    obtain ⟨Aq, capq, hv, hA⟩ := queue_cells h.queue
    rw [hv] at c1
    have HA := Lib.hid hA
    have HH := Lib.hid h
    have HO := Lib.hid ho
    have HKC := Lib.hid hkc
    have HD := Lib.hid hd
    have HZ : Hid (SaveAt r L d keep 0 w w) := Lib.hid ⟨L, by rw [show fallAt d keep 0 = d.last from rfl]; exact h.raw, CStep.refl _ _, rfl⟩
    clear h hd hkc hA ho hv
    go_enter Tryz.func20, Tryz.ntmps20
    go_wp2_with fail
    go_loopw [17] (fun iv wr => ∃ i : Nat, i ≤ d.q.length ∧ iv = .int .i64 i ∧ SaveAt r L d keep i w wr) (fun iv _ => d.q.length - (intOf iv).toNat)
    case atStart => exact ⟨0, Nat.zero_le _, rfl, HZ.out⟩
    case round =>
      obtain ⟨i, hi, rfl, L1, p1, k1, m1⟩ := hrel
      have P1 := Lib.hid p1
      have K1 := Lib.hid k1
      have M1 := Lib.hid m1
      clear p1 k1 m1 HZ
      by_cases hlt : i < d.q.length
      · obtain ⟨g, rfl, cur, hg, ht, _⟩ := HA.out (by omega)
        have hg1 := K1.out.block HH.out.raw hg (by decide) (by decide)
        obtain ⟨e0, e1⟩ := row_at hg1 ht i hlt
        have hgl : g < wr.heap.size := brow_lt hg1
        clear hg1 hg ht
        obtain ⟨x, hx⟩ : ∃ x, d.q[i] = x := ⟨_, rfl⟩
        have hinq := HO.out.inq _ (List.getElem_mem hlt)
        rw [hx] at e0 e1 hinq
        have HX := Lib.hid hx
        have HIN := Lib.hid hinq
        have hi0 : (0 : Int) ≤ (i : Int) := by omega
        have hi1 : (i : Int) < (d.q.length : Int) := by omega
        clear hx hinq
        obtain ⟨W, hW⟩ : ∃ W, W = wr.alloc (.cells #[.int .i64 x.1, .int .i64 (x.2 : Int)] 80) := ⟨_, rfl⟩
        have hal : Below wr.heap.size wr W := by rw [hW]; exact (Below.refl _ _).alloc (Nat.le_refl _) _
        have HW := Lib.hid hW
        have HAL := Lib.hid hal
        clear hal hW
        have HNO : Hid (oddAt keep i = false → SaveAt r L d keep (i + 1) w W) := Lib.hid fun he => by
          refine ⟨L1, ?_, K1.out.trans (CStep.of_below HAL.out), M1.out⟩
          rw [fallAt_next hlt, he]
          exact P1.out.below HAL.out
        by_cases h0 : 0 < keep.length
        · have h0' : (0 : Int) < (keep.length : Int) := by omega
          obtain ⟨bk, ok, rfl, hbk, hbn, hck⟩ := HKC.out h0
          have hmod : i % keep.length < keep.length := Nat.mod_lt _ h0
          have kc : wr.cell? ⟨bk, ok + i % keep.length, none⟩ = some (.int .i64 (keep.getD (i % keep.length) 0)) := by
            have e : wr.cell? ⟨bk, ok + i % keep.length, none⟩ = w.cell? ⟨bk, ok + i % keep.length, none⟩ := World.cell?_of_block (K1.out.fr.block bk hbk (fun hc => hbn (by
              rcases hc with hc | hc
              · exact .inr (.inl hc)
              · exact .inr (.inr (.inr hc)))))
            rw [e, hck _ hmod, List.getD_eq_getElem?_getD, List.getElem?_eq_getElem hmod]; rfl
          have hmk0 : (i : Int) % (keep.length : Int) = ((i % keep.length : Nat) : Int) := by omega
          have hod : oddAt keep i = decide (keep.getD (i % keep.length) 0 % 2 = 1) := by
            unfold oddAt
            have : keep.isEmpty = false := by
              cases keep with
              | nil => simp at h0
              | cons a l => rfl
            rw [this]; rfl
          have HOD := Lib.hid hod
          clear hod hck hbn
          generalize keep.getD (i % keep.length) 0 = kx at *
          obtain ⟨mm, hmm⟩ : ∃ mm, i % keep.length = mm := ⟨_, rfl⟩
          rw [hmm] at hmk0 kc hmod
          have hm0 : (0 : Int) ≤ (mm : Int) := by omega
          have hml : (mm : Int) < (keep.length : Int) := by omega
          have kcW : (wr.alloc (.cells #[.int .i64 x.1, .int .i64 (x.2 : Int)] 80)).cell? ⟨bk, ok + mm, none⟩ = some (.int .i64 kx) := Lib.cell?_alloc_some _ kc
          clear hmm hmod kc
          by_cases hodd : kx % 2 = 1
          · have hto := odd_of hodd
            have hpW := P1.out.below HAL.out
            have hlook : (Instr.lookup 56 (.map (some L.m)) (.int .i64 x.1) false).run Tryz.prog W.drew = .ok (.pointer (some ⟨L1.fb x.1, 0, none⟩)) W.drew := by
              have := (hpW.files.map.kept (w' := W.drew) rfl).look HIN.out.1
              rw [M1.out] at this; exact this
            obtain ⟨cW0, _⟩ := hpW.cells
            rw [M1.out] at cW0
            have hbox : W.heap[wr.heap.size]? = some (.cells #[.int .i64 x.1, .int .i64 (x.2 : Int)] 80 (0, 0)) := by rw [HW.out]; exact heap_alloc_new wr _
            have bW0 : W.cell? ⟨wr.heap.size, 0, none⟩ = some (.int .i64 x.1) := by rw [Lib.cell_of_heap hbox]; rfl
            have bW1 : W.cell? ⟨wr.heap.size, 1, none⟩ = some (.int .i64 (x.2 : Int)) := by rw [Lib.cell_of_heap hbox]; rfl
            have hsv : Calls Tryz.prog 44 #[.pointer (some ⟨L1.fb x.1, 0, none⟩), .int .i64 (x.2 : Int)] W.drew (SavePost L1 d.now (fallAt d keep i) x.1 x.2 W.drew) :=
              save_any L1 d.now (fallAt d keep i) x.1 x.2 W.drew (hpW.files.keep fun b _ => rfl) HIN.out.1 HIN.out.2 (HO.out.big x.1) (Nat.le_trans (fallAt_le HO.out keep i x.1) (HO.out.big x.1))
            have HSV := Lib.hid hsv
            have HPW : Hid (PRaw r L1 { d with last := fallAt d keep i } d.q W.drew) := Lib.hid (hpW.kept fun b _ => rfl)
            have HOD1 : Hid (oddAt keep i = true) := Lib.hid (by rw [HOD.out]; exact decide_eq_true hodd)
            have HDR : Hid (Below wr.heap.size wr W.drew) := Lib.hid (HAL.out.trans ⟨rfl, rfl, rfl, Nat.le_refl _, fun _ _ => rfl⟩)
            clear hodd HNO HOD hpW hbox hsv
            go_wp2_with fail
            rw [← HW.out]
            go_region_law (first | (go_simp; go_at_call 44; (with_reducible refine HSV.out.mono ?_); rintro e w5 hs5; obtain ⟨rfl, L5, hp5, hk5⟩ := HPW.out.saved hs5; have HN : Hid (SaveAt r L d keep (i + 1) w w5) := Lib.hid ⟨L5, by rw [fallAt_next hlt, HOD1.out, HX.out]; exact hp5, K1.out.trans ((CStep.of_below HDR.out).trans hk5), hk5.m.trans M1.out⟩; clear hp5 hk5 hs5))
            all_goals
              go_wp2
              go_roundw
              case rel => exact ⟨i + 1, by omega, by go_num, HN.out⟩
              case measure => simp [intOf]; omega
          · have hto := even_of hodd
            have HN := Lib.hid (HNO.out (by rw [HOD.out]; exact decide_eq_false hodd))
            clear hodd HNO HOD
            go_wp2_with fail
            rw [← HW.out]
            go_roundw
            case rel => exact ⟨i + 1, by omega, by go_num, HN.out⟩
            case measure => simp [intOf]; omega
        · have h0' : (keep.length : Int) ≤ 0 := by omega
          have HN := Lib.hid (HNO.out (by
            have : keep = [] := List.eq_nil_of_length_eq_zero (by omega)
            rw [this]; exact oddAt_nil i))
          clear HNO
          go_wp2_with fail
          rw [← HW.out]
          go_roundw
          case rel => exact ⟨i + 1, by omega, by go_num, HN.out⟩
          case measure => simp [intOf]; omega
      · obtain rfl : i = d.q.length := by omega
        obtain ⟨w0, hw0⟩ : ∃ w0, w0 = wr := ⟨_, rfl⟩
        subst hw0
        have hp := P1.out
        obtain ⟨D, hown, hD1, hD2⟩ := hp.files.map
        have HDD : Hid (FilesD D L1.fb) := Lib.hid ⟨hD1, hD2⟩
        obtain ⟨cw0, _⟩ := hp.cells
        clear hp hD1 hD2
        go_wp2_with (first | (at_range; refine wpList_range_own _ rfl _ 56 rfl 3 61 lawInt Tryz.underlying56 ptrElem L1.m 16 D rfl hown ?_; intro w2 hrg hg2 hs2))
        have HF0 := Lib.hid (fallAt_start P1.out HDD.out hrg hg2)
        clear hrg hg2 hs2
        go_loopw [7] (fun _ wx => FallAt r L1 d (fallAt d keep d.q.length) D w0.heap.size w0 wx) (fun _ wx => wx.rangeLeft L1.m w0.heap.size)
        case atStart => exact HF0.out
        case round =>
          obtain ⟨lf, cnt, L2, hrg, p2, k2, m2, hR⟩ := hrel
          have P2 := Lib.hid p2
          have K2 := Lib.hid k2
          have M2 := Lib.hid m2
          have HR := Lib.hid hR
          clear p2 k2 m2 hR HF0
          go_wp2_with (first | (at_next; refine wpList_next_ranges wr rfl _ rfl 3 lawInt ptrElem (Value.int .i64) Value.pointer (fun key kl hkey => by obtain ⟨x, rfl, _⟩ := Maps.keyOf_int_inv Tryz.underlying3 hkey; exact ⟨x, rfl⟩) (fun v y hv => ptrElem_ptr hv) L1.m w0.heap.size 16 D lf cnt rfl hrg ?_ ?_))
          · intro h0 hl0
            have p9 := P2.out.congr (now' := fallAt d keep d.q.length) (last' := fallAt d keep d.q.length) (fun f hf => (show fallen d.now (fallAt d keep d.q.length) lf f = fallAt d keep d.q.length f by unfold fallen; rw [hl0]; rfl).symm) (fun f hf => rfl)
            obtain ⟨L9, a9, s9, e9⟩ := crash_end p9
            obtain ⟨_, _, _, _, _, _, _, hz⟩ := P2.out.cells
            have z1 := hz 1
            have z2 := hz 2
            have z4 := hz 4
            have z5 := hz 5
            have z6 := hz 6
            have hrl := P2.out.lt
            have HE : Hid (Left r L (pcrash d keep) (.tuple #[]) w (.returned (.tuple #[])) (crashW r wr)) := Lib.hid (by
              refine ⟨rfl, L9, ?_, (K1.out.step.trans (K2.out.step.trans s9)), e9.trans (K2.out.fb.trans K1.out.fb)⟩
              unfold pcrash Dk.crash
              rw [HD.out, ← fallAt_all]
              exact a9)
            have hcw : crashW r wr = (((((wr.setCell ⟨r, 1, none⟩ (.slice none 0 0)).setCell ⟨r, 2, none⟩ (.map (some wr.heap.size))).setCell ⟨r, 4, none⟩ (.int .i64 0)).setCell ⟨r, 5, none⟩ (.slice none 0 0)).setCell ⟨r, 6, none⟩ (.bool true)).alloc (.map #[] 0) := by
              have hsz : ∀ (w : World) (a : Addr) (u : Value), (w.setCell a u).heap.size = w.heap.size := fun w a u => by simp [World.setCell]
              unfold crashW
              rw [World.setCell_alloc_past _ _ _ _ hrl, World.setCell_alloc_past _ _ _ _ (by rw [hsz]; exact hrl), World.setCell_alloc_past _ _ _ _ (by rw [hsz, hsz]; exact hrl), World.setCell_alloc_past _ _ _ _ (by rw [hsz, hsz, hsz]; exact hrl), World.setCell_alloc_past _ _ _ _ (by rw [hsz, hsz, hsz, hsz]; exact hrl)]
            rw [hcw] at HE
            clear hcw
            have hmm := @run_makeMap Tryz.prog
            clear p9 a9 s9 e9 hz hl0 hrg P2 K2
            go_wp2
            refine bodyPost_end (results_none rfl _ _ _) rfl ?_
            exact HE.out
          · intro x p kl y ps w3 cnt3 hkey hlk hv hat hrg3 hlt3 hg3 hs3 hen
            obtain ⟨rfl, hfx, rfl⟩ := fallAt_more HDD.out hkey hv hat
            obtain ⟨m9, a9, s9, c9, hR9⟩ := ranges_iter hrg
            have p3 := P2.out.grownIter hg3 hR9
            have hfb2 := K2.out.fb
            obtain ⟨x0, x1, xz⟩ := p3.files.cells hfx
            rw [hfb2] at x0 x1 xz
            have xz0 := xz 0
            have hrow : w3.ownsRow 0 5 1 (L2.rv x true) (fallAt d keep d.q.length x).length (bcs (fallAt d keep d.q.length x)) := p3.files.row x true hfx
            have hcl := cloneB_any _ _ _ w3 hrow (one_bcs _) (Nat.le_trans (Nat.le_trans (fallAt_le HO.out keep _ x) (HO.out.big x)) (by omega))
            have HCL := Lib.hid hcl
            have hxlt : L1.fb x < w3.heap.size := by rw [← hfb2]; exact brow_lt (p3.files.file x hfx)
            have HST : Hid (∀ w4 v', w4.ownsRow w3.heap.size 5 1 v' (fallAt d keep d.q.length x).length (bcs (fallAt d keep d.q.length x)) → Below w3.heap.size w3 w4 →
                (w4.setCell ⟨L1.fb x, 0, none⟩ v').rangeLeft L1.m w0.heap.size = cnt3 ∧ FallAt r L1 d (fallAt d keep d.q.length) D w0.heap.size w0 (w4.setCell ⟨L1.fb x, 0, none⟩ v')) := Lib.hid fun w4 v' h1 h2 => by
              have := fallAt_step P2.out K2.out M2.out hfx hrg3 hg3 ⟨m9, a9, s9, c9, hR9⟩ h1 h2
              rw [hfb2] at this
              exact ⟨this.1.left_eq, this.2⟩
            have HLE := Lib.hid hrg.left_eq
            clear p3 hrow hcl xz hfb2 hR9 hg3 hrg3 hkey hlk hv hat P2 K2 M2 hrg
            go_wp2_with fail
            refine HCL.out.mono ?_
            rintro e w4 ⟨v', rfl, hown, hb4⟩
            obtain ⟨A4, cap4, rfl, _⟩ := own_parts hown
            have x41 : w4.cell? ⟨L1.fb x, 0, none⟩ = some (L2.rv x false) := (hb4.cell (p := ⟨L1.fb x, 0, none⟩) hxlt).trans x0
            have x40 : w4.frozen? ⟨L1.fb x, 0, none⟩ = false := (hb4.frozen (p := ⟨L1.fb x, 0, none⟩) hxlt).trans xz0
            have HF := Lib.hid (HST.out w4 _ hown hb4)
            clear hown hb4 HST HCL
            go_wp2
            go_roundw
            case rel => exact HF.out.2
            case measure => rw [HF.out.1, HLE.out]; exact hlt3

end Go.Proofs.YtbpkcgkcamkggaaGreatDoor
