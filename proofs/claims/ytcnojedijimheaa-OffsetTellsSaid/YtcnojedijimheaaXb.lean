/-
  Contracts of the reference of layer 8 (1): valid, Grow.
-/
import Derived.Test.YtcnojedijimheaaGw
import Derived.Test.YtcnojedijimheaaXa
import Derived.Test.YtcnojedijimheaaSm
set_option linter.unusedVariables false
set_option maxRecDepth 100000
namespace Go.Proofs.Ytcnojedijimheaa
open Go.RowKit

theorem vRight_dec (A : Option Addr) (cap : Nat) (l : List Rc) (w : World) (h : RIn w A cap l) : Calls Try.prog 26 #[.slice A l.length cap] w (BlIs (decide (RegP l)) w) := by
  by_cases hr : RegP l
  · rw [decide_eq_true hr]; exact vRight_yes A cap l w h.row h.len hr
  · rw [decide_eq_false hr]; exact vRight_no A cap l w h.row h.len hr
theorem xvalid_any (A : Option Addr) (cap : Nat) (l : List Rc) (d : Int) (w : World) (hl : RIn w A cap l) : Calls Try.prog 54 #[.slice A l.length cap, .int .i64 d] w (BlIs (decide (RegP l ∧ DistP d)) w) := by
  have HR := Lib.hid (vRight_dec A cap l w hl)
  by_cases c0 : 0 ≤ d
  · have d0 : decide (0 ≤ d) = true := decide_eq_true c0
    by_cases c1 : d ≤ 1048576
    · have d1 : decide (d ≤ 1048576) = true := decide_eq_true c1
      rw [show decide (RegP l ∧ DistP d) = decide (RegP l) from decide_eq_decide.2 ⟨fun h => h.1, fun h => ⟨h, c0, c1⟩⟩]
      generalize decide (RegP l) = p at *
      clear hl
      go_enter Try.func54, Try.ntmps54
      go_wp2_with fail
      refine HR.out.mono ?_
      rintro e1 w1 ⟨rfl, hb1⟩
      have HB1 := Lib.hid hb1; clear hb1
      go_wp2_with fail
      go_ret
      exact ⟨rfl, HB1.out⟩
    · have d1 : decide (d ≤ 1048576) = false := decide_eq_false c1
      rw [show decide (RegP l ∧ DistP d) = false from decide_eq_false (fun h => c1 h.2.2)]
      clear hl HR
      go_enter Try.func54, Try.ntmps54
      go_wp2_with fail
      go_ret
      exact ⟨rfl, by (repeat' first | exact Below.refl _ _ | assumption | (apply below_drewN) | (refine Below.setCell ?_ (by (try simp); (try omega)) _) | (refine Below.alloc ?_ (by (try simp); (try omega)) _) | (refine Below.trans ?_ (Below.mono (Hid.out (by assumption)) (by (try simp); (try omega)))))⟩
  · have d0 : decide (0 ≤ d) = false := decide_eq_false c0
    rw [show decide (RegP l ∧ DistP d) = false from decide_eq_false (fun h => c0 h.2.1)]
    clear hl HR
    go_enter Try.func54, Try.ntmps54
    go_wp2_with fail
    go_ret
    exact ⟨rfl, by (repeat' first | exact Below.refl _ _ | assumption | (apply below_drewN) | (refine Below.setCell ?_ (by (try simp); (try omega)) _) | (refine Below.alloc ?_ (by (try simp); (try omega)) _) | (refine Below.trans ?_ (Below.mono (Hid.out (by assumption)) (by (try simp); (try omega)))))⟩
theorem OwnR.snoc {v v' : Value} {l : List Rc} {r : Rc} {n : Nat} {w wr w' : World} (h : OwnR v l w wr) (hn : n = l.length + 1) (ho : w'.ownsRow w.heap.size 41 4 v' n (rcells l ++ [.int .i64 r.X0, .int .i64 r.Y0, .int .i64 r.X1, .int .i64 r.Y1])) (hg : wr.grownBy w' v.ownBlock) : OwnR v' (l ++ [r]) w w' :=
  ⟨by rw [rcells_append, List.length_append]; rw [hn] at ho; exact ho, Below.grown h.bel hg h.bel.size (fun k hk => (h.own.lt k hk).1)⟩
theorem new_rect (w : World) (r : Rc) (g : Nat) (hg : g = w.heap.size) : ∀ t u, [Value.int .i64 r.X0, .int .i64 r.Y0, .int .i64 r.X1, .int .i64 r.Y1][t]? = some u → (w.alloc (.cells #[.int .i64 r.X0, .int .i64 r.Y0, .int .i64 r.X1, .int .i64 r.Y1] 41)).cell? ((⟨g, 0, none⟩ : Addr).add t) = some u := by
  subst hg
  intro t u ht
  match t, ht with
  | 0, ht => simp at ht; subst ht; simp [Addr.add]
  | 1, ht => simp at ht; subst ht; simp [Addr.add]
  | 2, ht => simp at ht; subst ht; simp [Addr.add]
  | 3, ht => simp at ht; subst ht; simp [Addr.add]
theorem grownL_next (l : List Rc) (d : Int) (k : Nat) (h : k < l.length) : grownL (l.take (k + 1)) d = grownL (l.take k) d ++ [grownR l[k] d] := by
  rw [List.take_succ_eq_append_getElem h]; unfold grownL; rw [List.map_append]; rfl
theorem InR_of {r : Rc} (h : ROk r) : InR r := by unfold ROk Span at h; unfold InR In64; omega
set_option maxHeartbeats 16000000 in
theorem xgrow_any (A : Option Addr) (cap : Nat) (l : List Rc) (d : Int) (w : World) (hl : RIn w A cap l) :
    Calls Try.prog 18 #[.slice A l.length cap, .int .i64 d] w (ResIs (growM l d) w) := by
  have HV := Lib.hid (xvalid_any A cap l d w hl)
  by_cases hv : RegP l ∧ DistP d
  · rw [decide_eq_true hv] at HV
    obtain ⟨hr, hd⟩ := hv
    have HL := Lib.hid hl
    have EQ := Lib.hid (of_grown hr hd)
    have HOK := Lib.hid (form_ok hr.1)
    have HG := Lib.hid (fun (r : Rc) (hro : ROk r) (w' : World) => show Calls Try.prog 55 #[.agg #[.int .i64 r.X0, .int .i64 r.Y0, .int .i64 r.X1, .int .i64 r.Y1], .int .i64 d] w' (RbIs (grownR r d, true) w') from by
      have := ugrow_any r d (InR_of hro) (by unfold In64; have := hd.1; have := hd.2; omega) w'
      rwa [grow_is hro hd.1] at this)
    have hlen := hr.2
    have HLEN := Lib.hid (show (grownL l d).length = l.length by simp [grownL])
    obtain ⟨i0, hi9, hz0, hz1, hz2⟩ := info_parts infoRect
    clear hr hd hl
    go_enter Try.func18, Try.ntmps18
    go_wp2_with fail
    refine HV.out.mono ?_
    rintro e1 w1 ⟨rfl, hb1⟩
    have K0 : Hid (OwnR (.slice none 0 0) (grownL (l.take 0) d) w w1) := Lib.hid ⟨World.ownsRow_nil _ _ _ _, hb1⟩
    clear hb1
    go_wp2_with fail
    go_loopw [6, 7, 8, 9] (fun v i _ _ wr => ∃ (k : Nat) (v0 : Value), k ≤ l.length ∧ i = .int .i64 k ∧ v0 = v ∧ Hid (OwnR v0 (grownL (l.take k) d) w wr)) (fun _ i _ _ _ => l.length - (intOf i).toNat)
    case atStart => exact ⟨0, _, Nat.zero_le _, rfl, rfl, K0⟩
    case round =>
      clear K0
      obtain ⟨k, v0, hk, rfl, rfl, HS⟩ := hrel
      by_cases hlt : k < l.length
      · obtain ⟨b1, o1, rfl, hb1, hv1⟩ := HL.out.row (by omega)
        obtain ⟨x0, x1, x2, x3⟩ := hv1 k hlt
        have wc := fun o => HS.out.bel.cell (p := ⟨b1, o, none⟩) hb1
        have x0 := (wc _).trans x0; have x1 := (wc _).trans x1; have x2 := (wc _).trans x2; have x3 := (wc _).trans x3
        clear hv1 wc
        have j0 : (0 : Int) ≤ (k : Int) := by omega
        have j1 : (k : Int) < (l.length : Int) := by omega
        have NEXT := Lib.hid (grownL_next l d k hlt)
        have hml : (grownL (l.take k) d).length = k := by simp [grownL]; omega
        obtain ⟨u, hu⟩ : ∃ u, u = l[k] := ⟨_, rfl⟩
        have HGU := Lib.hid (fun w' => HG.out u (by rw [hu]; exact HOK.out _ (List.getElem_mem hlt)) w')
        rw [← hu] at x0 x1 x2 x3 NEXT
        clear hu
        obtain ⟨F, hF⟩ : ∃ F, F = grownL (l.take k) d := ⟨_, rfl⟩
        rw [← hF] at HS NEXT hml
        clear hF
        go_wp2_with fail
        refine (HGU.out _).mono ?_
        rintro e6 w6 ⟨rfl, hb6⟩
        obtain ⟨z, hz⟩ : ∃ z, z = grownR u d := ⟨_, rfl⟩
        rw [← hz] at NEXT ⊢
        have HS2 := Lib.hid (HS.out.go hb6)
        have HS3 := Lib.hid (HS2.out.go ((Below.refl _ _).alloc (Nat.le_refl _) (.cells #[.int .i64 z.X0, .int .i64 z.Y0, .int .i64 z.X1, .int .i64 z.Y1] 41)))
        have HS4 := Lib.hid (HS3.out.go ((Below.refl _ _).alloc (Nat.le_refl _) (.cells #[.int .i64 z.X0, .int .i64 z.Y0, .int .i64 z.X1, .int .i64 z.Y1] 41)))
        have hws := HS2.out.bel.size
        clear hb6 HS x0 x1 x2 x3 hz HGU
        simp only []
        go_wp2_with (at_builtin; refine wpList_append_own _ rfl _ _ 22 rfl w.heap.size 41 i0 (.agg #[.int .i64 0, .int .i64 0, .int .i64 0, .int .i64 0]) 4 32 Try.underlying22 hi9 hz0 hz1 hz2 rfl (by decide) _ _ _ rfl HS4.out.own ⟨w6.heap.size + 1, 0, none⟩ 1 1 [.int .i64 z.X0, .int .i64 z.Y0, .int .i64 z.X1, .int .i64 z.Y1] rfl rfl ?c1 ?c2 ?c3 ?c4 ?c5 ?_)
        case c1 => exact new_rect _ z _ (by simp)
        case c2 => intro u hu; simp only [List.mem_cons, List.not_mem_nil, or_false] at hu; rcases hu with rfl | rfl | rfl | rfl <;> rfl
        case c3 => unfold maxLen; omega
        case c4 => omega
        case c5 => first | omega | (simp; omega)
        intro v' w4 hown' hgr _
        have HX : Hid (OwnR v' (grownL (l.take (k + 1)) d) w w4) := Lib.hid (by rw [NEXT.out]; exact HS4.out.snoc (by omega) hown' hgr)
        clear hown' hgr HS2 HS3 HS4
        go_wp2_with fail
        go_roundw
        case rel => exact ⟨k + 1, _, by omega, by go_num, rfl, HX⟩
        case measure => simp [intOf]; omega
      · obtain rfl : k = l.length := by omega
        rw [List.take_length] at HS
        have hlw := HS.out.own
        obtain ⟨A2, c2, rfl, hrow, _⟩ := own_rects hlw
        have HOF := Lib.hid (vof_any A2 c2 (grownL l d) wr hrow (by have := HLEN.out; omega))
        rw [EQ.out] at HOF
        have HBL := Lib.hid HS.out.bel
        clear hlw hrow HS HLEN EQ
        generalize (grownL l d).length = gn at *
        go_wp2_with fail
        refine HOF.out.mono ?_
        rintro e7 w7 hres
        obtain ⟨A3, c3, rfl, h3, h4⟩ := hres.parts
        have FR : Hid (ResIs (growM l d) w (.returned (.tuple #[.slice A3 (growM l d).1.length c3, .int .i64 (growM l d).2])) w7) := Lib.hid ⟨_, rfl, own_base h3 HBL.out.size, HBL.out.trans (h4.mono HBL.out.size)⟩
        clear hres h3 h4 HOF
        generalize (growM l d).1.length = n2 at *
        generalize (growM l d).2 = er2 at *
        go_wp2_with fail
        go_ret2
        exact FR.out
  · rw [decide_eq_false hv] at HV
    rw [show growM l d = ([], 1) from if_neg hv]
    clear hv hl
    go_enter Try.func18, Try.ntmps18
    go_wp2_with fail
    refine HV.out.mono ?_
    rintro e1 w1 ⟨rfl, hb1⟩
    have HB1 := Lib.hid hb1; clear hb1
    go_wp2_with fail
    go_ret2
    exact ⟨_, rfl, World.ownsRow_nil _ _ _ _, HB1.out⟩
end Go.Proofs.Ytcnojedijimheaa
