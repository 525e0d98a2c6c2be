/-
  Contracts of the program's layer 8 (11): rowsAround.
-/
import Derived.Test.YtcnojedijimheaaSi
import Derived.Test.YtcnojedijimheaaHr
import Derived.Deep.AppendLies
set_option linter.unusedVariables false
set_option maxRecDepth 100000
namespace Go.Proofs.Ytcnojedijimheaa
open Go.RowKit

theorem three_heap (w : World) (o1 o2 o3 : Obj) : (((w.alloc o1).alloc o2).alloc o3).heap[w.heap.size]? = some o1 ∧ (((w.alloc o1).alloc o2).alloc o3).heap[w.heap.size + 1]? = some o2 ∧ (((w.alloc o1).alloc o2).alloc o3).heap[w.heap.size + 1 + 1]? = some o3 := by
  refine ⟨?_, ?_, ?_⟩
  · exact (heap_alloc_old _ _ (by simp; omega)).trans ((heap_alloc_old _ _ (by simp)).trans (heap_alloc_new w o1))
  · exact (heap_alloc_old _ _ (by simp)).trans (by have := heap_alloc_new (w.alloc o1) o2; simpa using this)
  · have := heap_alloc_new ((w.alloc o1).alloc o2) o3
    simpa using this
set_option maxHeartbeats 16000000 in
theorem yrows_any (A : Option Addr) (cap : Nat) (S : List Slab) (x d : Int) (w : World) (hS : SlabsOk S) (hl : RIn w A cap (flatS S)) (hlen : (flatS S).length ≤ 200) (hd : 0 ≤ d ∧ d ≤ 1048576) (hx : -2097152 ≤ x ∧ x ≤ 2097152) :
    Calls Try.prog 57 #[.slice A (flatS S).length cap, .int .i64 x, .int .i64 d] w (SpIs (rowsA S x d) w) := by
  obtain ⟨i0, hi9, hz0, hz1, hz2⟩ := info_parts infoSpan
  have q0 : IntKind.i64.wrap (2 * d) = 2 * d := IntWalk.i64_in _ (by omega)
  have q1 : IntKind.i64.wrap (2 * d + 1) = 2 * d + 1 := IntWalk.i64_in _ (by omega)
  have q2 : IntKind.i64.wrap (x - d) = x - d := IntWalk.i64_in _ (by omega)
  have q3 : IntKind.i64.wrap (x + d) = x + d := IntWalk.i64_in _ (by omega)
  have q4 : IntKind.i64.wrap (x + d + 1) = x + d + 1 := IntWalk.i64_in _ (by omega)
  have HFEW := Lib.hid (rows_few hS hd.1 x)
  have HSP : Hid (SpOk (wfold (x - d) (x + d + 1) (2 * d + 1, [(0, 1048576)]) S).2 ∧ (wfold (x - d) (x + d + 1) (2 * d + 1, [(0, 1048576)]) S).2.length ≤ 1200) := Lib.hid (by
    refine ⟨(wfold_rows (x - d) (x + d + 1) S (2 * d + 1, [(0, 1048576)]) hS.each ⟨fun p hp => by rw [List.mem_singleton] at hp; subst hp; decide, List.pairwise_singleton _ _⟩).1, ?_⟩
    have key : ∀ (S : List Slab) (q : Int × List (Int × Int)), (wfold (x - d) (x + d + 1) q S).2.length ≤ q.2.length + (flatS S).length := by
      intro S
      induction S with
      | nil => intro q; simp [wfold]
      | cons s S ih =>
        intro q
        rw [wfold_cons]
        have h1 := ih (wstep (x - d) (x + d + 1) q s)
        have h2 := wstep_len (x - d) (x + d + 1) q s
        rw [flat_cons, List.length_append, rects_len]
        omega
    have := key S (2 * d + 1, [(0, 1048576)])
    simp only [List.length_singleton] at this
    omega)
  have ST0 : Hid (RowsSt w (w.heap.size + 1) (w.heap.size + 1 + 1) (2 * d + 1) [(0, 1048576)] (((w.alloc (.cells #[.int .i64 0, .int .i64 1048576] 63)).alloc (.cells #[.int .i64 (2 * d + 1)] 3)).alloc (.cells #[.slice (some ⟨w.heap.size, 0, none⟩) 1 1] 58))) := Lib.hid (by
    refine ⟨?_, ⟨some ⟨w.heap.size, 0, none⟩, 1, ?_, fun _ => ⟨w.heap.size, 0, rfl, Nat.zero_le _, by simp; omega, fun j hj => ?_⟩, fun g hg => ?_, Nat.le_refl _, by omega⟩, by omega, by omega, ((((Below.refl _ _).alloc (Nat.le_refl _) _).alloc (by simp) _).alloc (by simp; omega) _)⟩
    · exact (three_heap _ _ _ _).2.1
    · exact (three_heap _ _ _ _).2.2
    · obtain rfl : j = 0 := by simp at hj; omega
      have h3 := (three_heap w (.cells #[.int .i64 0, .int .i64 1048576] 63) (.cells #[.int .i64 (2 * d + 1)] 3) (.cells #[.slice (some ⟨w.heap.size, 0, none⟩) 1 1] 58)).1
      exact ⟨by rw [Lib.cell_of_heap h3]; rfl, by rw [Lib.cell_of_heap h3]; rfl⟩
    · obtain rfl : w.heap.size = g := by simpa [Value.ownBlock] using hg
      omega)
  have HEA := Lib.hid (fun w' (h : RowsSt w (w.heap.size + 1) (w.heap.size + 1 + 1) (2 * d + 1) [(0, 1048576)] w') => yeach_any w (w.heap.size + 1) (w.heap.size + 1 + 1) (2 * d + 1) [(0, 1048576)] A cap S (x - d) (x + d + 1) w' h hS hl.row hlen hl.room hl.room2 (by omega) (by omega) (by simp))
  obtain ⟨RES, hRES⟩ : ∃ RES, RES = rowsA S x d := ⟨_, rfl⟩
  rw [← hRES] at HFEW ⊢
  rw [show rowsA S x d = if 0 < (wfold (x - d) (x + d + 1) (2 * d + 1, [(0, 1048576)]) S).1 then [] else insetS d (wfold (x - d) (x + d + 1) (2 * d + 1, [(0, 1048576)]) S).2 from rfl] at hRES
  have HRES := Lib.hid hRES; clear hRES
  have HM := Lib.hid (wfold_miss (x - d) (x + d + 1) S (2 * d + 1, [(0, 1048576)]))
  have HGR : Hid (∀ p ∈ (wfold (x - d) (x + d + 1) (2 * d + 1, [(0, 1048576)]) S).2, 0 ≤ p.1 ∧ p.2 ≤ 1048576) := Lib.hid (fun p hp => by
    have h0 : SpOk [((0 : Int), (1048576 : Int))] := ⟨fun p hp => by rw [List.mem_singleton] at hp; subst hp; decide, List.pairwise_singleton _ _⟩
    obtain ⟨r1, r2⟩ := wfold_rows (x - d) (x + d + 1) S (2 * d + 1, [(0, 1048576)]) hS.each h0
    have hp1 := r1.1 p hp
    obtain ⟨a, ha, k1, k2⟩ := ((r2 p.1).1 ⟨p, hp, Int.le_refl _, hp1⟩).1
    obtain ⟨b, hb, k3, k4⟩ := ((r2 (p.2 - 1)).1 ⟨p, hp, by omega, by omega⟩).1
    rw [List.mem_singleton] at ha hb
    subst ha; subst hb
    simp only [] at k1 k4
    omega)
  have HDD := Lib.hid hd
  clear hS hl hlen hd hx
  generalize wfold (x - d) (x + d + 1) (2 * d + 1, [(0, 1048576)]) S = q at *
  obtain ⟨m, P⟩ := q
  go_enter Try.func57, Try.ntmps57
  go_wp2_with fail
  refine (HEA.out _ ST0.out).mono ?_
  rintro e1 w1 ⟨rfl, hst⟩
  (try simp only [] at hst HM HSP HGR HRES)
  obtain ⟨A2, c2, hbr, hrow, _, hc1, hc2⟩ := hst.r
  have y0 : w1.cell? ⟨w.heap.size + 1, 0, none⟩ = some (.int .i64 m) := by rw [Lib.cell_of_heap hst.m]; rfl
  have y1 : w1.cell? ⟨w.heap.size + 1 + 1, 0, none⟩ = some (.slice A2 P.length c2) := by rw [Lib.cell_of_heap hbr]; rfl
  have HB1 := Lib.hid hst.bel
  have HROW := Lib.hid hrow
  clear hst hbr hrow HEA ST0 q0 q1 q2 q3 q4
  generalize w.heap.size + 1 + 1 = br at *
  generalize w.heap.size + 1 = bm at *
  by_cases hm : 0 < m
  · rw [if_pos hm] at HRES
    go_wp2_with fail
    go_ret
    exact ⟨_, rfl, by rw [HRES.out]; exact World.ownsRow_nil _ _ _ _, HB1.out⟩
  · rw [if_neg hm] at HRES
    have K0 : Hid (OwnS (.slice none 0 0) (insetS d (P.take 0)) w1 w1) := Lib.hid (OwnS.start w1)
    have hPl := HSP.out.2
    go_wp2_with fail
    go_loopw [9, 31] (fun v i wr => ∃ (k : Nat) (v0 : Value), k ≤ P.length ∧ i = .int .i64 k ∧ v0 = v ∧ Hid (OwnS v0 (insetS d (P.take k)) w1 wr)) (fun _ i _ => P.length - (intOf i).toNat)
    case atStart => exact ⟨0, _, Nat.zero_le _, rfl, rfl, K0⟩
    case round =>
      clear K0 y1 y0
      obtain ⟨k, v0, hk, rfl, rfl, HO⟩ := hrel
      by_cases hlt : k < P.length
      · obtain ⟨b1, o1, rfl, _, hb1, hv1⟩ := HROW.out (by omega)
        obtain ⟨x0, x1⟩ := hv1 k hlt
        have wc := fun o => HO.out.bel.cell (p := ⟨b1, o, none⟩) hb1
        have x0 := (wc _).trans x0; have x1 := (wc _).trans x1
        clear hv1 wc
        have j0 : (0 : Int) ≤ (k : Int) := by omega
        have j1 : (k : Int) < (P.length : Int) := by omega
        have HN := Lib.hid (inset_next d P k hlt)
        have hg1 := HGR.out _ (List.getElem_mem hlt)
        have hg2 := HSP.out.1.1 _ (List.getElem_mem hlt)
        have hdd := HDD.out
        obtain ⟨u, hu⟩ : ∃ u, u = P[k] := ⟨_, rfl⟩
        rw [← hu] at x0 x1 HN hg1 hg2
        clear hu
        obtain ⟨u0, u1⟩ := u
        simp only [] at x0 x1 hg1 hg2 HN
        have q5 : IntKind.i64.wrap (u0 + d) = u0 + d := IntWalk.i64_in _ (by omega)
        have q6 : IntKind.i64.wrap (u1 - d) = u1 - d := IntWalk.i64_in _ (by omega)
        clear hg1 hg2 hdd
        have hln : (insetS d (P.take k)).length ≤ 1200 := Nat.le_trans (inset_len _ _) (by rw [List.length_take]; omega)
        obtain ⟨X, hX⟩ : ∃ X, X = insetS d (P.take k) := ⟨_, rfl⟩
        rw [← hX] at HO HN hln
        clear hX
        have hbs := HO.out.bel.size
        have HO1 : Hid (OwnS v0 X w1 (wr.alloc (.cells #[.int .i64 u0, .int .i64 u1] 63))) := Lib.hid (HO.out.go ((Below.refl _ _).alloc (Nat.le_refl _) _))
        by_cases c : u0 + d < u1 - d
        · rw [if_pos c] at HN
          have HOWN := Lib.hid HO1.out.own
          clear HO
          go_wp2_with (at_builtin; refine wpList_append_own _ rfl _ _ 58 rfl w1.heap.size 63 i0 (.agg #[.int .i64 0, .int .i64 0]) 2 16 Try.underlying58 hi9 hz0 hz1 hz2 rfl (by decide) _ _ _ rfl (HOWN.out.alloc _) ⟨wr.heap.size + 1, 0, none⟩ 1 1 [.int .i64 (u0 + d), .int .i64 (u1 - d)] rfl rfl ?c1 ?c2 ?c3 ?c4 ?c5 ?_)
          case c1 =>
            intro t z ht
            match t, ht with
            | 0, ht => simp at ht; subst ht; simp [Addr.add]
            | 1, ht => simp at ht; subst ht; simp [Addr.add]
          case c2 => intro z hz; simp at hz; rcases hz with rfl | rfl <;> rfl
          case c3 => unfold maxLen; omega
          case c4 => omega
          case c5 => simp; omega
          intro v4 w4 hown4 hgr4 _
          have HO4 : Hid (OwnS v4 (insetS d (P.take (k + 1))) w1 w4) := Lib.hid (by
            rw [HN.out]
            refine (HO1.out.go ((Below.refl _ _).alloc (Nat.le_refl _) (.cells #[.int .i64 (u0 + d), .int .i64 (u1 - d)] 63))).grown ?_ hgr4
            rw [scells_append, List.length_append]; exact hown4)
          clear hown4 hgr4 HOWN HO1 HN x0 x1 q5 q6
          go_wp2_with fail
          go_roundw
          case rel => exact ⟨k + 1, v4, by omega, by go_num, rfl, HO4⟩
          case measure => simp [intOf]; omega
        · rw [if_neg c, List.append_nil] at HN
          have HO4 : Hid (OwnS v0 (insetS d (P.take (k + 1))) w1 (wr.alloc (.cells #[.int .i64 u0, .int .i64 u1] 63))) := Lib.hid (by rw [HN.out]; exact HO1.out)
          clear HO HO1 HN
          go_wp2_with fail
          go_roundw
          case rel => exact ⟨k + 1, v0, by omega, by go_num, rfl, HO4⟩
          case measure => simp [intOf]; omega
      · obtain rfl : k = P.length := by omega
        rw [List.take_length] at HO
        go_wp2_with fail
        go_ret
        exact ⟨_, rfl, by rw [HRES.out]; exact own_base HO.out.own HB1.out.size, HB1.out.trans (HO.out.bel.mono HB1.out.size)⟩
end Go.Proofs.Ytcnojedijimheaa
