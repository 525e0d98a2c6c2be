/-
  Two disks in a law; the examples (small).
-/
import Derived.Test.YtkbffhlkbcdgnaaNb
set_option linter.unusedVariables false
set_option maxRecDepth 100000
namespace Go.Proofs.Ytkbffhlkbcdgnaa
open Go.RowKit

/-- two disks that share nothing written. -/
structure Pair (W : World) (r : Nat) (L : Lay) (d : Dk) (n : Nat) (r2 : Nat) (L2 : Lay) (d2 : Dk) (n2 : Nat) (w : World) : Prop where
  one : Held W r L d n w
  two : Held W r2 L2 d2 n2 w
  far : Apart r L r2 L2
section
variable {W : World} {r : Nat} {L L' : Lay} {d d' : Dk} {n n' : Nat} {r2 : Nat} {L2 : Lay} {d2 : Dk} {n2 : Nat} {w w' : World}
theorem Pair.swap (h : Pair W r L d n r2 L2 d2 n2 w) : Pair W r2 L2 d2 n2 r L d n w := ⟨h.two, h.one, h.far.symm⟩
theorem Pair.below (h : Pair W r L d n r2 L2 d2 n2 w) (hb : Below w.heap.size w w') : Pair W r L d n r2 L2 d2 n2 w' := ⟨h.one.below hb, h.two.below hb, h.far⟩
theorem Pair.step (h : Pair W r L d n r2 L2 d2 n2 w) (hd : DAt r L' d' n' w') (k : PStep r L L' w w') : Pair W r L' d' n' r2 L2 d2 n2 w' := by
  obtain ⟨h1, h2⟩ := h.two.at_.far h.one.at_ h.far k
  exact ⟨h.one.step hd k, ⟨h1, (h.one.step hd k).bel, h.two.own⟩, h2⟩
theorem Pair.mono (h : Pair W r L d n r2 L2 d2 n2 w) (hn : n ≤ n') : Pair W r L d n' r2 L2 d2 n2 w := ⟨h.one.mono hn, h.two, h.far⟩
theorem Held.pair (h : Held W r L d n w) (h2 : Held w r2 L2 d2 n2 w') : Pair W r L d n r2 L2 d2 n2 w' :=
  ⟨h.below h2.bel, ⟨h2.at_, h.bel.trans (h2.bel.mono h.bel.size), fun b hb => Nat.le_trans h.bel.size (h2.own b hb)⟩, fun b h1 h3 => by
    have := h.at_.own_lt h1
    have := h2.own b h3
    omega⟩
end

/-- a new list of ints: no disk's own. -/
theorem krd_new {r : Nat} {L : Lay} {d : Dk} {n : Nat} {w : World} (h : DAt r L d n w) (zs : List Int) (T : TypeId) : KRd r L (w.alloc (.cells (zs.map (Value.int .i64)).toArray T)) (.slice (some ⟨w.heap.size, 0, none⟩) zs.length zs.length) zs := by
  refine ⟨_, _, rfl, fun h0 => ⟨w.heap.size, 0, rfl, ?_, fun ho => ?_, fun j hj => ?_⟩⟩
  · exact brow_lt (heap_alloc_new w _)
  · have := h.own_lt ho
    omega
  · rw [Nat.zero_add]
    rw [Lib.cell_of_heap (heap_alloc_new w _)]
    simp [hj]
theorem below_alloc (w : World) (o : Obj) : Below w.heap.size w (w.alloc o) := (Below.refl _ _).alloc (Nat.le_refl _) o
theorem ret_is {e : Ending} {a b : Int} (h : e = .returned (.int .i64 a)) (hab : a = b) : e = .returned (.int .i64 b) := by rw [h, hab]
theorem two_is {e : Ending} {s : ByteArray} {a b : Int} (h : e = .returned (.tuple #[.string s, .int .i64 a])) (hab : a = b) : e = .returned (.tuple #[.string s, .int .i64 b]) := by rw [h, hab]
theorem str_is {s : ByteArray} {l : List UInt8} {a : Array UInt8} (h : s.data.toList = l) (hl : l = a.toList) : s = ⟨a⟩ := ByteArray.ext (Array.toList_inj.1 (h.trans hl))

set_option maxRecDepth 100000 in
set_option maxHeartbeats 8000000 in
theorem small_any (w : World) : Calls Try.prog 4 #[] w fun e w' => e = .returned (.bool true) ∧ Below w.heap.size w w' := by
  go_enter Try.func4, Try.ntmps4
  go_wp2_with fail
  refine (hNew (Below.refl w.heap.size w)).mono ?_
  rintro e w1 ⟨r, L, rfl, hh, hbn, hon⟩
  have H1 := Lib.hid hh
  clear hh hbn hon
  go_wp2_with fail
  refine (hWrite H1.out (by omega) (by unfold In64; omega) (by unfold In64; omega) _ (by decide)).mono ?_
  rintro e w2 ⟨he, L1, h1⟩
  obtain rfl := ret_is (b := 0) he (by decide +kernel)
  have H2 := Lib.hid h1
  clear h1 H1 he
  go_wp2_with fail
  refine (hSync H2.out (by omega) (by unfold In64; omega)).mono ?_
  rintro e w3 ⟨he, L2, h1⟩
  obtain rfl := ret_is (b := 0) he (by decide +kernel)
  have H3 := Lib.hid h1
  clear h1 H2 he
  go_wp2_with fail
  refine (hWrite H3.out (by omega) (by unfold In64; omega) (by unfold In64; omega) _ (by decide)).mono ?_
  rintro e w4 ⟨he, L3, h1⟩
  obtain rfl := ret_is (b := 0) he (by decide +kernel)
  have H4 := Lib.hid h1
  clear h1 H3 he
  go_wp2_with fail
  refine (mCopy H4.out.at_ (by omega)).mono ?_
  rintro e w5 ⟨r2, M, rfl, hd2, hb2, ho2⟩
  have H5 := Lib.hid (H4.out.pair ⟨hd2, hb2, ho2⟩)
  clear hd2 hb2 ho2 H4
  go_wp2_with fail
  have H6 := Lib.hid (H5.out.below (below_alloc w5 (.cells #[.int .i64 1] 3)))
  refine (mCrash H6.out.one.at_ (by omega) (krd_new H5.out.one.at_ [1] 3) (by decide)).mono ?_
  rintro e w7 ⟨rfl, L7, h7, k7⟩
  have H7 := Lib.hid (H6.out.step h7 k7)
  clear h7 k7 H6 H5
  go_wp2_with fail
  refine (mDown H7.out.one.at_).mono ?_
  rintro e w8 ⟨he, rfl⟩
  obtain rfl : e = .returned (.bool true) := he.trans (congrArg (fun b => Ending.returned (.bool b)) (by decide +kernel))
  clear he
  go_wp2_with fail
  refine (mRead H7.out.one.at_ (by omega) (by unfold In64; omega) (by unfold In64; omega) (by unfold In64; omega)).mono ?_
  rintro e w9 ⟨s, he, hs, h8⟩
  obtain rfl := str_is (a := #[]) hs (by decide +kernel)
  obtain rfl := two_is (b := 8) he (by decide +kernel)
  have H9 := Lib.hid (H7.out.below h8)
  clear he hs h8 H7
  go_wp2_with fail
  refine (mStart H9.out.one.at_).mono ?_
  rintro e w10 ⟨rfl, L10, h7, k7⟩
  have H10 := Lib.hid (H9.out.step h7 k7)
  clear h7 k7 H9
  go_wp2_with fail
  refine (mRead H10.out.one.at_ (by omega) (by unfold In64; omega) (by unfold In64; omega) (by unfold In64; omega)).mono ?_
  rintro e w11 ⟨s, he, hs, h8⟩
  obtain rfl := str_is (a := #[97, 88, 89]) hs (by decide +kernel)
  obtain rfl := two_is (b := 0) he (by decide +kernel)
  have H11 := Lib.hid (H10.out.below h8).two
  clear he hs h8 H10
  go_wp2_with fail
  have H12 := Lib.hid (H11.out.below (below_alloc w11 (.cells #[.int .i64 0] 3)))
  refine (mCrash H12.out.at_ (by omega) (krd_new H11.out.at_ [0] 3) (by decide)).mono ?_
  rintro e w13 ⟨rfl, L13, h7, k7⟩
  have H13 := Lib.hid (H12.out.step h7 k7)
  clear h7 k7 H12 H11
  go_wp2_with fail
  refine (hStart H13.out).mono ?_
  rintro e w14 ⟨rfl, L14, h7⟩
  have H14 := Lib.hid h7
  clear h7 H13
  go_wp2_with fail
  refine (hRead H14.out (by omega) (by unfold In64; omega) (by unfold In64; omega) (by unfold In64; omega)).mono ?_
  rintro e w15 ⟨s, he, hs, h8⟩
  obtain rfl := str_is (a := #[98, 99]) hs (by decide +kernel)
  obtain rfl := two_is (b := 0) he (by decide +kernel)
  have H15 := Lib.hid h8
  clear he hs h8 H14
  go_wp2_with fail
  refine (hWrite H15.out (by omega) (by unfold In64; omega) (by unfold In64; omega) _ (by decide)).mono ?_
  rintro e w16 ⟨he, L16, h1⟩
  obtain rfl := ret_is (b := 0) he (by decide +kernel)
  have H16 := Lib.hid h1
  clear h1 H15 he
  go_wp2_with fail
  have H17 := Lib.hid (H16.out.below (below_alloc w16 (.cells #[.int .i64 0, .int .i64 1] 3)))
  refine (mCrash H17.out.at_ (by omega) (krd_new H16.out.at_ [0, 1] 3) (by decide)).mono ?_
  rintro e w18 ⟨rfl, L18, h7, k7⟩
  have H18 := Lib.hid (H17.out.step h7 k7)
  clear h7 k7 H17 H16
  go_wp2_with fail
  refine (hStart H18.out).mono ?_
  rintro e w19 ⟨rfl, L19, h7⟩
  have H19 := Lib.hid h7
  clear h7 H18
  go_wp2_with fail
  refine (hRead H19.out (by omega) (by unfold In64; omega) (by unfold In64; omega) (by unfold In64; omega)).mono ?_
  rintro e w20 ⟨s, he, hs, h8⟩
  obtain rfl := str_is (a := #[0, 0, 0, 0, 99, 100]) hs (by decide +kernel)
  obtain rfl := two_is (b := 0) he (by decide +kernel)
  have H20 := Lib.hid h8
  clear he hs h8 H19
  go_wp2_with fail
  refine (mSize H20.out.at_ (by unfold In64; omega)).mono ?_
  rintro e w21 ⟨he, rfl⟩
  obtain rfl := ret_is (b := 66) he (by decide +kernel)
  clear he
  go_wp2_with fail
  refine (hWrite H20.out (by omega) (by unfold In64; omega) (by unfold In64; omega) _ (by decide)).mono ?_
  rintro e w22 ⟨he, L22, h1⟩
  obtain rfl := ret_is (b := 1) he (by decide +kernel)
  have H22 := Lib.hid h1
  clear h1 H20 he
  go_wp2_with fail
  refine (hWrite H22.out (by omega) (by unfold In64; omega) (by unfold In64; omega) _ (by decide)).mono ?_
  rintro e w23 ⟨he, L23, h1⟩
  obtain rfl := ret_is (b := 6) he (by decide +kernel)
  have H23 := Lib.hid h1
  clear h1 H22 he
  go_wp2
  go_ret
  exact ⟨rfl, H23.out.bel⟩

end Go.Proofs.Ytkbffhlkbcdgnaa
