/-
  The reference's journal (3): Open and Sync over the model.
-/
import Derived.Test.YtbpkcgkcamkggaaGreatDoorT939
import Derived.Test.YtbpkcgkcamkggaaGreatDoorT944
set_option linter.unusedVariables false
set_option maxRecDepth 100000
namespace Go.Proofs.YtbpkcgkcamkggaaGreatDoor
open Go.RowKit W

/-- what the reference's Open leaves. -/
def QOpen (r B : Nat) (f : Int) (d : Dk) (k : Nat) (w : World) (e : Ending) (w' : World) : Prop :=
  RD r B (jopen d f).1 (k + 2) w' ∧ QFr B w w' ∧
   (((jopen d f).2.1 ≠ 0 ∧ e = .returned (.tuple #[.pointer none, .int .i64 (jopen d f).2.1])) ∨
    ((jopen d f).2.1 = 0 ∧ ∃ rk, e = .returned (.tuple #[.pointer (some ⟨rk, 0, none⟩), .int .i64 0]) ∧ KAt rk r B f (jopen d f).2.2 false (fun b => b < w.heap.size) w'))

set_option maxHeartbeats 8000000 in
theorem qopen_any {r B : Nat} {d : Dk} {k : Nat} {w : World} (h : RD r B d k w) (hk : k ≤ 290) (hB : B ≤ w.heap.size) {f : Int} (h64 : In64 f) :
    Calls Tryz.prog 9 #[.pointer (some ⟨r, 0, none⟩), .int .i64 f] w (QOpen r B f d k w) := by
  have H := Lib.hid h
  have H64 := Lib.hid h64
  obtain ⟨hf0, hf1⟩ := h64
  by_cases hf : Dk.fileOk f
  · obtain ⟨hge, hle⟩ := hf
    have HF := Lib.hid (show Dk.fileOk f from ⟨hge, hle⟩)
    clear h
    go_enter Tryz.func9, Tryz.ntmps9
    go_wp2_with fail
    refine (rd_sync H.out (by omega) f).mono ?_
    rintro e w2 ⟨rfl, h2, k2⟩
    have H2 := Lib.hid h2
    have K2 := Lib.hid (QFr.of_r k2)
    clear h2 k2
    by_cases hc : (d.sync f).2 = 0
    · obtain ⟨d1, d2, d3, d4⟩ := Dk.sync_ok hc
      have HC := Lib.hid hc
      have HE0 := Lib.hid (fun h3 => jopen_whole HF.out hc h3)
      have HE1 := Lib.hid (fun h3 h4 => jopen_cut HF.out hc h3 h4)
      have HE2 := Lib.hid (fun h3 h4 => jopen_short HF.out hc h3 h4)
      rw [hc]
      have hrd := Dk.read_part HF.out d3 (f := f) (a := 0) (n := (((d.sync f).1.now f).length : Int)) (by omega) (by omega)
      rw [Int.toNat_zero, List.drop_zero, Int.toNat_natCast, List.take_length] at hrd
      have HRD := Lib.hid hrd
      have hbig := H2.out.ok.big f
      clear hc d1 d2 d3 d4 hrd H
      go_wp2_with fail
      refine (rd_size H2.out (by omega) f).mono ?_
      rintro e w3 ⟨rfl, hb3⟩
      have H3 := Lib.hid (H2.out.below hb3)
      have K3 := Lib.hid (K2.out.trans (QFr.of_below hb3))
      clear hb3 H2 K2
      go_wp2_with fail
      refine (rd_read H3.out (by omega) f 0 _ (by unfold In64; omega) (by unfold In64; omega)).mono ?_
      rintro e w4 ⟨s, he, hs, hb4⟩
      rw [HRD.out] at he hs
      subst he
      have H4 := Lib.hid (H3.out.below hb4)
      have K4 := Lib.hid (K3.out.trans (QFr.of_below hb4))
      have hsz : s.size = ((d.sync f).1.now f).length := by rw [← list_size, hs]
      have HS := Lib.hid hs
      clear hs hb4 H3 K3 HRD
      go_wp2_with fail
      refine (qrecords_any s w4 (by omega)).mono ?_
      rintro e w5 ⟨v, he, hown, hb5⟩
      rw [HS.out] at hown
      subst he
      have hle := recs_le (s := (d.sync f).1.now f) (by unfold maxI; omega)
      generalize hR : recs ((d.sync f).1.now f) = R at *
      have H5 := Lib.hid (H4.out.below hb5)
      have K5 := Lib.hid (K4.out.trans (QFr.of_below hb5))
      have hz4 := K4.out.size
      have hz5 := K5.out.size
      have hnew : ∀ b, v.ownBlock = some b → ¬ b < w.heap.size := fun b hb => by
        have := (hown.lt b hb).1
        omega
      obtain ⟨A, cap, hve, htr⟩ := TRow.of_own (O := fun _ => False) hown (fun _ _ h => h)
      subst hve
      have hb6 : Below w5.heap.size w5 (w5.alloc (.cells #[.pointer (some ⟨r, 0, none⟩), .int .i64 f, .slice A R.length cap, .bool false] 49)) := (Below.refl _ _).alloc (Nat.le_refl _) _
      have hk6 : KAt w5.heap.size r B f R false (fun b => b < w.heap.size) (w5.alloc (.cells #[.pointer (some ⟨r, 0, none⟩), .int .i64 f, .slice A R.length cap, .bool false] 49)) :=
        ⟨⟨_, heap_alloc_new w5 _, own_le (own_keep hown (fun g c z hg => hb6.block g (brow_lt hg))) (by omega), (by omega), hnew⟩, (by omega)⟩
      have H6 := Lib.hid (H5.out.below hb6)
      have K6 := Lib.hid (K5.out.trans (QFr.of_below hb6))
      have KJ6 := Lib.hid hk6
      have TR6 := Lib.hid (htr.below hb6)
      clear hown hb5 hb6 hk6 hnew htr H4 K4 H5 K5
      go_wp2_with fail
      refine (qforms_any A cap R _ TR6.out (by omega)).mono ?_
      rintro e w7 ⟨t, rfl, ht, hb7⟩
      have htz : t.size = (forms R).length := by rw [← list_size, ht]
      have H7 := Lib.hid (H6.out.below hb7)
      have K7 := Lib.hid (K6.out.trans (QFr.of_below hb7))
      have KJ7 := Lib.hid (KJ6.out.below hb7)
      have HTZ := Lib.hid htz
      clear ht hb7 H6 K6 KJ6 TR6 htz
      by_cases hlt : (forms R).length < ((d.sync f).1.now f).length
      · have hlt' : (t.size : Int) < (s.size : Int) := by have := HTZ.out; omega
        have htr : Calls Tryz.prog 39 #[.pointer (some ⟨r, 0, none⟩), .int .i64 f, .int .i64 (t.size : Int)] w7 (RDLeft r B ((d.sync f).1.trunc f ((forms R).length : Int)).1 (k + 1 + 1) (.int .i64 ((d.sync f).1.trunc f ((forms R).length : Int)).2) w7) := by
          have htz := HTZ.out
          rw [htz]
          exact rd_trunc H7.out (by omega) f _ (by unfold In64; omega)
        have HTR := Lib.hid htr
        clear htr
        go_wp2_with fail
        with_reducible refine HTR.out.mono ?_
        rintro e w8 ⟨rfl, h8, k8⟩
        have H8 := Lib.hid h8
        have K8 := Lib.hid (K7.out.trans (QFr.of_r k8))
        have KJ8 := Lib.hid (KJ7.out.rfr k8)
        clear h8 k8 HTR H7 K7 KJ7
        by_cases hc6 : ((d.sync f).1.trunc f ((forms R).length : Int)).2 = 0
        · have HE := Lib.hid (HE2.out hlt hc6)
          rw [hc6]
          clear HE0 HE1 HE2 hc6
          go_wp2
          go_ret2
          unfold QOpen
          rw [HE.out]
          exact ⟨H8.out.mono (by omega), K8.out, .inr ⟨rfl, _, rfl, KJ8.out⟩⟩
        · have HE := Lib.hid (HE1.out hlt hc6)
          have hnb : ((((d.sync f).1.trunc f ((forms R).length : Int)).2 : Int) != 0) = true := by simpa using hc6
          have HNE := Lib.hid hc6
          clear HE0 HE1 HE2 hc6
          generalize ((d.sync f).1.trunc f ((forms R).length : Int)).2 = c6 at *
          go_wp2
          go_ret2
          unfold QOpen
          rw [HE.out]
          exact ⟨H8.out.mono (by omega), K8.out, .inl ⟨HNE.out, rfl⟩⟩
      · have hlt' : (s.size : Int) ≤ (t.size : Int) := by have := HTZ.out; omega
        have HE := Lib.hid (HE0.out hlt)
        clear HE0 HE1 HE2
        go_wp2
        go_ret2
        unfold QOpen
        rw [HE.out]
        exact ⟨H7.out.mono (by omega), K7.out, .inr ⟨rfl, _, rfl, KJ7.out⟩⟩
    · have HE := Lib.hid (jopen_lost HF.out hc)
      have hnb : (((d.sync f).2 : Int) != 0) = true := by simpa using hc
      have HNE := Lib.hid hc
      clear H hc
      generalize (d.sync f).2 = c at *
      go_wp2
      go_ret2
      unfold QOpen
      rw [HE.out]
      exact ⟨H2.out.mono (by omega), K2.out, .inl ⟨HNE.out, rfl⟩⟩
  · have HE := Lib.hid (jopen_no (d := d) hf)
    have hpost : Hid (QOpen r B f d k w (.returned (.tuple #[.pointer none, .int .i64 1])) w) := Lib.hid (by
      unfold QOpen
      rw [HE.out]
      exact ⟨h.mono (by omega), QFr.refl _ _, .inl ⟨by simp, rfl⟩⟩)
    clear h
    by_cases h0 : f < 0
    · clear hf
      go_enter Tryz.func9, Tryz.ntmps9
      go_wp2
      go_ret2
      exact hpost.out
    · have h16 : 16 ≤ f := by
        unfold Dk.fileOk at hf
        omega
      have h0' : 0 ≤ f := by omega
      clear hf
      go_enter Tryz.func9, Tryz.ntmps9
      go_wp2
      go_ret2
      exact hpost.out

/-- what a writing method of the reference's journal leaves. -/
def QLeft (r B : Nat) (f : Int) (d' : Dk) (k' rk : Nat) (R' : List (List UInt8)) (bad' : Bool) (O : Nat → Prop) (res : Int) (w : World) (e : Ending) (w' : World) : Prop :=
  e = .returned (.int .i64 res) ∧ RD r B d' k' w' ∧ KAt rk r B f R' bad' O w' ∧ QFr B w w'

section
variable {rk r B : Nat} {f : Int} {R : List (List UInt8)} {bad : Bool} {O : Nat → Prop} {d : Dk} {k : Nat} {w w' : World}
/-- a change of the journal's own block leaves the disk. -/
theorem RD.qjrn (h : RD r B d k w) {c : Array Value} {z : Nat × Nat} (hc : w.heap[rk]? = some (.cells c 49 z)) (hg : w.grownBy w' (some rk)) : RD r B d k w' :=
  h.far fun b c2 T z2 hb hT => hg.block b (brow_lt hb) (fun e => by
    injection e with e
    subst e
    rw [hb] at hc
    simp only [Option.some.injEq, Obj.cells.injEq] at hc
    obtain ⟨_, e2, _⟩ := hc
    rcases hT with e1 | e1 | e1 | e1 <;> (rw [e1] at e2; exact absurd e2 (by decide)))
/-- a store of Bad. -/
theorem KAt.mark (h : KAt rk r B f R bad O w) (b : Bool) : KAt rk r B f R b O (w.setCell ⟨rk, 3, none⟩ (.bool b)) ∧ QFr B w (w.setCell ⟨rk, 3, none⟩ (.bool b)) ∧ (∀ {d : Dk} {k : Nat}, RD r B d k w → RD r B d k (w.setCell ⟨rk, 3, none⟩ (.bool b))) := by
  obtain ⟨v, h1, h2, h3, h4⟩ := h.ex
  refine ⟨⟨⟨v, ?_, ownKeep h2 fun g hg => Below.heap_setCell _ _ _ _ (fun e => ?_), h3, h4⟩, h.ge⟩, QFr.of_jrn (grown_one _ _ _ _) h.ge h1, fun hd => hd.qjrn h1 (grown_one _ _ _ _)⟩
  · simp [World.setCell, Array.getElem?_modify, h1]
  · exact other_kind h2 h1 (by decide) (by rw [hg, e])

set_option maxHeartbeats 4000000 in
theorem qsync_any (hd : RD r B d k w) (h : KAt rk r B f R bad O w) (hk : k ≤ 300) :
    Calls Tryz.prog 15 #[.pointer (some ⟨rk, 0, none⟩)] w (QLeft r B f (jsync d f bad).1 (k + 1) rk R (jsync d f bad).2.2 O (jsync d f bad).2.1 w) := by
  obtain ⟨A, cap, c0, c1, c2, c3, hz, _⟩ := h.cells
  cases bad with
  | true =>
    have HP : Hid (QLeft r B f (jsync d f true).1 (k + 1) rk R (jsync d f true).2.2 O (jsync d f true).2.1 w (.returned (.int .i64 7)) w) := Lib.hid ⟨rfl, hd.mono (by omega), h, QFr.refl _ _⟩
    clear hd h c0 c1 c2 hz
    go_enter Tryz.func15, Tryz.ntmps15
    go_wp2
    go_ret
    exact HP.out
  | false =>
    have hb0 : Below w.heap.size w w.drew := ⟨rfl, rfl, rfl, Nat.le_refl _, fun _ _ => rfl⟩
    have HD := Lib.hid (hd.below hb0)
    have HJ := Lib.hid (h.below hb0)
    have HM := Lib.hid (rd_sync HD.out hk f)
    have hE : ∀ w4, RD r B (d.sync f).1 (k + 1) w4 → RFr B w.drew w4 → ∀ b, b = decide ((d.sync f).2 ≠ 0) → QLeft r B f (jsync d f false).1 (k + 1) rk R (jsync d f false).2.2 O (jsync d f false).2.1 w (.returned (.int .i64 (d.sync f).2)) (w4.setCell ⟨rk, 3, none⟩ (.bool b)) := fun w4 h4 k4 b hb => by
      obtain ⟨hj5, k5, hd5⟩ := (HJ.out.rfr k4).mark b
      subst hb
      exact ⟨rfl, hd5 h4, hj5, ((QFr.of_below hb0).trans (QFr.of_r k4)).trans k5⟩
    have HE := Lib.hid hE
    have hF : ∀ w4, RFr B w.drew w4 → w4.frozen? ⟨rk, 3, none⟩ = false ∧ w4.cell? ⟨rk, 3, none⟩ = some (.bool false) := fun w4 k4 => by
      obtain ⟨_, _, _, _, _, d4, dz, _⟩ := (HJ.out.rfr k4).cells
      exact ⟨dz 3, d4⟩
    have HF := Lib.hid hF
    clear hE hF hd h hb0
    go_enter Tryz.func15, Tryz.ntmps15
    go_wp2
    go_region_law (first | (go_simp; go_at_call 36; (with_reducible refine HM.out.mono ?_); rintro e w4 ⟨rfl, h4, k4⟩; obtain ⟨f4, d4⟩ := HF.out w4 k4; have H4 := Lib.hid (HE.out w4 h4 k4); clear h4 k4))
    all_goals
      by_cases hc : (d.sync f).2 = 0
      · have H5 := Lib.hid (H4.out false (by simp [hc]))
        have hcb : ((d.sync f).2 != 0) = false := by simp [hc]
        clear H4
        rw [hc] at H5 hcb ⊢
        go_wp2
        go_ret
        exact H5.out
      · have H5 := Lib.hid (H4.out true (by simp [hc]))
        have hcb : ((d.sync f).2 != 0) = true := by simpa using hc
        clear H4
        generalize hce : (d.sync f).2 = c at *
        go_wp2
        go_ret
        exact H5.out
end

end Go.Proofs.YtbpkcgkcamkggaaGreatDoor
