/-
  The journal over a machine that is up, with no crash scheduled (mathematics).
-/
import Derived.Test.YtncadnmoiiiahaaDoorJd
import Derived.Test.YtncadnmoiiiahaaDoorJf
set_option linter.unusedVariables false
set_option maxRecDepth 100000
namespace Go.Proofs.YtncadnmoiiiahaaDoor
open W

theorem put_end (s t : List UInt8) : put s s.length t = s ++ t := by
  by_cases h : t = []
  · subst h; rw [put_nil]; simp
  · apply ext_bt
    · rw [put_length h, List.length_append]; omega
    · intro i hi
      rw [bt_put, bt_append]
      rw [put_length h] at hi
      by_cases c : i < s.length
      · rw [if_neg (by omega), if_pos c]
      · rw [if_pos (by omega), if_neg c]

namespace Dk
/-- up, and no crash is scheduled. -/
structure Up (d : Dk) : Prop where
  down : d.down = false
  armed : d.armed = 0
theorem up_new : Up new := ⟨rfl, rfl⟩

/-- a write that stands. -/
structure Wrote (d : Dk) (f : Int) (X : List UInt8) (e : Dk) : Prop where
  now : e.now = upd d.now f X
  last : e.last = d.last
  lost : e.lost = d.lost
  up : Up e
theorem write_up {d : Dk} (h : Up d) {f a : Int} (hf : fileOk f) {s : List UInt8} (h0 : 0 ≤ a) (hb : a + s.length ≤ 16777216) :
    (d.write f a s).2 = 0 ∧ Wrote d f (put (d.now f) a.toNat s) (d.write f a s).1 := by
  unfold write
  rw [counted_up h.down (by rw [h.armed]; decide)]
  unfold write0
  rw [if_neg (Decidable.not_not.mpr hf), if_neg (by omega), if_neg (by omega)]
  refine ⟨rfl, ?_⟩
  unfold add
  by_cases e : s = []
  · rw [if_pos e, e, put_nil]
    exact ⟨(upd_self _ _).symm, rfl, rfl, ⟨h.down, by simp [h.armed]⟩⟩
  · rw [if_neg e]
    exact ⟨rfl, rfl, rfl, ⟨h.down, by simp [h.armed]⟩⟩

/-- a sync that stands: nothing but the durable part has turned. -/
structure Settled (d : Dk) (f : Int) (X : List UInt8) (e : Dk) : Prop where
  kept : Kept e f X
  other : ∀ g, g ≠ f → e.now g = d.now g
  lost : e.lost = d.lost
  up : Up e
theorem sync_up {d : Dk} (h : Up d) {f : Int} (hf : fileOk f) (hl : d.lost = 0) : (d.sync f).2 = 0 ∧ Settled d f (d.now f) (d.sync f).1 := by
  have hs : (d.sync f).2 = 0 ∧ (∀ g, g ≠ f → (d.sync f).1.now g = d.now g) ∧ (d.sync f).1.lost = d.lost ∧ Up (d.sync f).1 := by
    unfold sync
    rw [counted_up h.down (by rw [h.armed]; decide)]
    unfold sync0
    rw [if_neg (Decidable.not_not.mpr hf), if_neg (by omega)]
    exact ⟨rfl, fun g hg => upd_other hg, rfl, ⟨h.down, by simp [h.armed]⟩⟩
  exact ⟨hs.1, (sync_ok hs.1).2.2.2, hs.2.1, hs.2.2.1, hs.2.2.2⟩
theorem trunc_ok {d : Dk} (h : Up d) {f : Int} (hf : fileOk f) {n : Nat} (hn : n ≤ (d.now f).length) : (d.trunc f (n : Int)).2 = 0 ∧ Settled d f ((d.now f).take n) (d.trunc f (n : Int)).1 := by
  unfold trunc
  rw [counted_up h.down (by rw [h.armed]; decide)]
  unfold trunc0
  rw [if_neg (Decidable.not_not.mpr hf), if_neg (by omega)]
  refine ⟨rfl, ⟨⟨by simp [settle, upd_same], by simp [settle, upd_same], fun x hx => ?_⟩, fun g hg => upd_other hg, rfl, ⟨h.down, by simp [h.armed]⟩⟩⟩
  have := (List.mem_filter.mp hx).2
  simpa using this
end Dk

/-- Open where nothing stands against it. -/
theorem jopen_up {d : Dk} (h : Dk.Up d) (ho : Dk.Ok d) {f : Int} (hf : Dk.fileOk f) (hl : d.lost = 0) :
    (jopen d f).2.1 = 0 ∧ (jopen d f).2.2 = recs (d.now f) ∧ Dk.Settled d f (forms (recs (d.now f))) (jopen d f).1 := by
  obtain ⟨h1, h2⟩ := Dk.sync_up h hf hl
  have hb := ho.big f
  have hn := h2.kept.now
  have hle := recs_le (s := d.now f) (by unfold maxI; omega)
  have htk := recs_take (s := d.now f) (by unfold maxI; omega)
  by_cases c : (forms (recs (d.now f))).length < (d.now f).length
  · obtain ⟨t1, t2⟩ := Dk.trunc_ok h2.up hf (n := (forms (recs (d.now f))).length) (by rw [hn]; omega)
    have e := jopen_short hf h1 (by rw [hn]; exact c) (by rw [hn]; exact t1)
    rw [hn] at e
    rw [e]
    refine ⟨rfl, rfl, ?_⟩
    rw [hn, htk] at t2
    exact ⟨t2.kept, fun g hg => (t2.other g hg).trans (h2.other g hg), t2.lost.trans h2.lost, t2.up⟩
  · have e := jopen_whole hf h1 (by rw [hn]; exact c)
    rw [hn] at e
    rw [e]
    refine ⟨rfl, rfl, ?_⟩
    have : forms (recs (d.now f)) = d.now f := by
      rw [← htk, List.take_of_length_le (by omega)]
    rw [this]
    exact h2
/-- Append where nothing stands against it. -/
theorem jappend_up {d : Dk} (h : Dk.Up d) {f : Int} (hf : Dk.fileOk f) {R : List (List UInt8)} (hn : d.now f = forms R) {s : List UInt8} (hs : s.length ≤ 20000) (hb : (forms R).length + (form s).length ≤ 1048576) :
    ∃ e, jappend d f R false s = (e, 0, R ++ [s], false) ∧ Dk.Wrote d f (forms (R ++ [s])) e := by
  obtain ⟨h1, h2⟩ := Dk.write_up h hf (a := ((forms R).length : Int)) (s := form s) (by omega) (by omega)
  refine ⟨_, jappend_ok (by omega) (by omega) h1, ?_⟩
  have e : put (d.now f) (((forms R).length : Int)).toNat (form s) = forms (R ++ [s]) := by
    rw [Int.toNat_natCast, hn, put_end, forms_snoc]
  rw [e] at h2
  exact h2

/-! ### the examples -/
theorem eNum_nat' (n : Nat) : Go.Lib.decDigits n ++ [59] = eInt (n : Int) := by
  unfold eInt Go.Lib.itoa
  rw [if_neg (by omega)]
  rfl
theorem dec293 : Go.Lib.decDigits 293 = [50, 57, 51] := by
  rw [dec_big (by decide), dec_big (by decide), dec_small (by decide)]; rfl
theorem dec97 : Go.Lib.decDigits 97 = [57, 55] := by
  rw [dec_big (by decide), dec_small (by decide)]; rfl
theorem dec98 : Go.Lib.decDigits 98 = [57, 56] := by
  rw [dec_big (by decide), dec_small (by decide)]; rfl
theorem sum_ab : rsum [97, 98] = 293 := by decide +kernel
theorem sum_a : rsum [97] = 97 := by decide +kernel
theorem sum_nil : rsum [] = 0 := rfl
theorem form_ab : form [97, 98] = [50, 58, 97, 98, 44, 50, 57, 51, 59] := by
  rw [form_eq, sum_ab, dec293, dec_small (by decide)]; rfl
theorem form_nil : form [] = [48, 58, 44, 48, 59] := by
  rw [form_eq, sum_nil, show ([] : List UInt8).length = 0 from rfl, dec_small (by decide)]; rfl
/-- the file of the third example. -/
def exFile : List UInt8 := [50, 58, 97, 98, 44, 50, 57, 51, 59, 49, 58, 97, 44, 57, 56, 59]
theorem ex_recs : recs exFile = [[97, 98]] := by
  refine recs_eq (rest := [49, 58, 97, 44, 57, 56, 59]) (by decide) ⟨?_, ?_, ?_⟩
  · rw [forms_cons, form_ab]; rfl
  · intro t ht
    simp only [List.mem_singleton] at ht
    subst ht; decide
  · have h1 : rdText [49, 58, 97, 44, 57, 56, 59] = some ([97], [57, 56, 59]) := (rdText_iff _ (by decide) _ _).2 (by
      unfold eText
      rw [show ([97] : List UInt8).length = 1 from rfl, dec_small (by decide)]; rfl)
    have h2 : rdNum [57, 56, 59] = some (98, []) := (rdNum_iff _ _ _).2 ⟨by
      rw [show (98 : Int) = ((98 : Nat) : Int) from rfl, ← eNum_nat' 98, dec98]; rfl, by omega, by unfold W.In64; omega⟩
    exact rdRec_bad h1 h2 (fun h => by rw [sum_a] at h; omega)

end Go.Proofs.YtncadnmoiiiahaaDoor
