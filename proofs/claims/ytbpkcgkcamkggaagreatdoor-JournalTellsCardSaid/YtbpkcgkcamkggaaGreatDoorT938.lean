/-
  The journal over a machine that is up, with no crash scheduled (mathematics).
  The laws' own helpers (layer 3): lists of records in memory; SameTexts, begins, few, texts, disky.
  A disk and its journal in a law: over the world in which the law was called.
-/
import Derived.Test.YtbpkcgkcamkggaaGreatDoorT935
import Derived.Test.YtbpkcgkcamkggaaGreatDoorT937
import Derived.Test.YtbpkcgkcamkggaaGreatDoorT926
import Derived.Deep.QuietTactic
import Derived.BigQuiet
set_option linter.unusedVariables false
set_option maxRecDepth 100000
namespace Go.Proofs.YtbpkcgkcamkggaaGreatDoor
open W

theorem put_end (s t : List UInt8) : put s s.length t = s ++ t := by
  by_cases h : t = []
  · subst h; rw [put_nil]; simp
  · apply ext_bt
    · rw [put_length h, List.length_append]; omega
    · intro i hi
      rw [bt_put, bt_append]
      rw [put_length h] at hi
      by_cases c : i < s.length
      · rw [if_neg (by omega), if_pos c]
      · rw [if_pos (by omega), if_neg c]

namespace Dk
/-- up, and no crash is scheduled. -/
structure Up (d : Dk) : Prop where
  down : d.down = false
  armed : d.armed = 0
theorem up_new : Up new := ⟨rfl, rfl⟩

/-- a write that stands. -/
structure Wrote (d : Dk) (f : Int) (X : List UInt8) (e : Dk) : Prop where
  now : e.now = upd d.now f X
  last : e.last = d.last
  lost : e.lost = d.lost
  up : Up e
theorem write_up {d : Dk} (h : Up d) {f a : Int} (hf : fileOk f) {s : List UInt8} (h0 : 0 ≤ a) (hb : a + s.length ≤ 16777216) :
    (d.write f a s).2 = 0 ∧ Wrote d f (put (d.now f) a.toNat s) (d.write f a s).1 := by
  unfold write
  rw [counted_up h.down (by rw [h.armed]; decide)]
  unfold write0
  rw [if_neg (Decidable.not_not.mpr hf), if_neg (by omega), if_neg (by omega)]
  refine ⟨rfl, ?_⟩
  unfold add
  by_cases e : s = []
  · rw [if_pos e, e, put_nil]
    exact ⟨(upd_self _ _).symm, rfl, rfl, ⟨h.down, by simp [h.armed]⟩⟩
  · rw [if_neg e]
    exact ⟨rfl, rfl, rfl, ⟨h.down, by simp [h.armed]⟩⟩

/-- a sync that stands: nothing but the durable part has turned. -/
structure Settled (d : Dk) (f : Int) (X : List UInt8) (e : Dk) : Prop where
  kept : Kept e f X
  other : ∀ g, g ≠ f → e.now g = d.now g
  lost : e.lost = d.lost
  up : Up e
theorem sync_up {d : Dk} (h : Up d) {f : Int} (hf : fileOk f) (hl : d.lost = 0) : (d.sync f).2 = 0 ∧ Settled d f (d.now f) (d.sync f).1 := by
  have hs : (d.sync f).2 = 0 ∧ (∀ g, g ≠ f → (d.sync f).1.now g = d.now g) ∧ (d.sync f).1.lost = d.lost ∧ Up (d.sync f).1 := by
    unfold sync
    rw [counted_up h.down (by rw [h.armed]; decide)]
    unfold sync0
    rw [if_neg (Decidable.not_not.mpr hf), if_neg (by omega)]
    exact ⟨rfl, fun g hg => upd_other hg, rfl, ⟨h.down, by simp [h.armed]⟩⟩
  exact ⟨hs.1, (sync_ok hs.1).2.2.2, hs.2.1, hs.2.2.1, hs.2.2.2⟩
theorem trunc_ok {d : Dk} (h : Up d) {f : Int} (hf : fileOk f) {n : Nat} (hn : n ≤ (d.now f).length) : (d.trunc f (n : Int)).2 = 0 ∧ Settled d f ((d.now f).take n) (d.trunc f (n : Int)).1 := by
  unfold trunc
  rw [counted_up h.down (by rw [h.armed]; decide)]
  unfold trunc0
  rw [if_neg (Decidable.not_not.mpr hf), if_neg (by omega)]
  refine ⟨rfl, ⟨⟨by simp [settle, upd_same], by simp [settle, upd_same], fun x hx => ?_⟩, fun g hg => upd_other hg, rfl, ⟨h.down, by simp [h.armed]⟩⟩⟩
  have := (List.mem_filter.mp hx).2
  simpa using this
end Dk

/-- Open where nothing stands against it. -/
theorem jopen_up {d : Dk} (h : Dk.Up d) (ho : Dk.Ok d) {f : Int} (hf : Dk.fileOk f) (hl : d.lost = 0) :
    (jopen d f).2.1 = 0 ∧ (jopen d f).2.2 = recs (d.now f) ∧ Dk.Settled d f (forms (recs (d.now f))) (jopen d f).1 := by
  obtain ⟨h1, h2⟩ := Dk.sync_up h hf hl
  have hb := ho.big f
  have hn := h2.kept.now
  have hle := recs_le (s := d.now f) (by unfold maxI; omega)
  have htk := recs_take (s := d.now f) (by unfold maxI; omega)
  by_cases c : (forms (recs (d.now f))).length < (d.now f).length
  · obtain ⟨t1, t2⟩ := Dk.trunc_ok h2.up hf (n := (forms (recs (d.now f))).length) (by rw [hn]; omega)
    have e := jopen_short hf h1 (by rw [hn]; exact c) (by rw [hn]; exact t1)
    rw [hn] at e
    rw [e]
    refine ⟨rfl, rfl, ?_⟩
    rw [hn, htk] at t2
    exact ⟨t2.kept, fun g hg => (t2.other g hg).trans (h2.other g hg), t2.lost.trans h2.lost, t2.up⟩
  · have e := jopen_whole hf h1 (by rw [hn]; exact c)
    rw [hn] at e
    rw [e]
    refine ⟨rfl, rfl, ?_⟩
    have : forms (recs (d.now f)) = d.now f := by
      rw [← htk, List.take_of_length_le (by omega)]
    rw [this]
    exact h2
/-- Append where nothing stands against it. -/
theorem jappend_up {d : Dk} (h : Dk.Up d) {f : Int} (hf : Dk.fileOk f) {R : List (List UInt8)} (hn : d.now f = forms R) {s : List UInt8} (hs : s.length ≤ 20000) (hb : (forms R).length + (form s).length ≤ 1048576) :
    ∃ e, jappend d f R false s = (e, 0, R ++ [s], false) ∧ Dk.Wrote d f (forms (R ++ [s])) e := by
  obtain ⟨h1, h2⟩ := Dk.write_up h hf (a := ((forms R).length : Int)) (s := form s) (by omega) (by omega)
  refine ⟨_, jappend_ok (by omega) (by omega) h1, ?_⟩
  have e : put (d.now f) (((forms R).length : Int)).toNat (form s) = forms (R ++ [s]) := by
    rw [Int.toNat_natCast, hn, put_end, forms_snoc]
  rw [e] at h2
  exact h2

/-! ### the examples -/
theorem eNum_nat' (n : Nat) : Go.Lib.decDigits n ++ [59] = eInt (n : Int) := by
  unfold eInt Go.Lib.itoa
  rw [if_neg (by omega)]
  rfl
theorem dec293 : Go.Lib.decDigits 293 = [50, 57, 51] := by
  rw [dec_big (by decide), dec_big (by decide), dec_small (by decide)]; rfl
theorem dec98 : Go.Lib.decDigits 98 = [57, 56] := by
  rw [dec_big (by decide), dec_small (by decide)]; rfl
theorem sum_ab : rsum [97, 98] = 293 := by decide +kernel
theorem sum_a : rsum [97] = 97 := by decide +kernel
theorem sum_nil : rsum [] = 0 := rfl
theorem form_ab : form [97, 98] = [50, 58, 97, 98, 44, 50, 57, 51, 59] := by
  rw [form_eq, sum_ab, dec293, dec_small (by decide)]; rfl
theorem form_nil : form [] = [48, 58, 44, 48, 59] := by
  rw [form_eq, sum_nil, show ([] : List UInt8).length = 0 from rfl, dec_small (by decide)]; rfl
/-- the file of the third example. -/
def exFile : List UInt8 := [50, 58, 97, 98, 44, 50, 57, 51, 59, 49, 58, 97, 44, 57, 56, 59]
theorem ex_recs : recs exFile = [[97, 98]] := by
  refine recs_eq (rest := [49, 58, 97, 44, 57, 56, 59]) (by decide) ⟨?_, ?_, ?_⟩
  · rw [forms_cons, form_ab]; rfl
  · intro t ht
    simp only [List.mem_singleton] at ht
    subst ht; decide
  · have h1 : rdText [49, 58, 97, 44, 57, 56, 59] = some ([97], [57, 56, 59]) := (rdText_iff _ (by decide) _ _).2 (by
      unfold eText
      rw [show ([97] : List UInt8).length = 1 from rfl, dec_small (by decide)]; rfl)
    have h2 : rdNum [57, 56, 59] = some (98, []) := (rdNum_iff _ _ _).2 ⟨by
      rw [show (98 : Int) = ((98 : Nat) : Int) from rfl, ← eNum_nat' 98, dec98]; rfl, by omega, by unfold W.In64; omega⟩
    exact rdRec_bad h1 h2 (fun h => by rw [sum_a] at h; omega)

end Go.Proofs.YtbpkcgkcamkggaaGreatDoor
namespace Go.Proofs.YtbpkcgkcamkggaaGreatDoor
open Go.RowKit W

/-- a list of records that can be read, in a block that is none of O. -/
def TRow (O : Nat → Prop) (w : World) (A : Option Addr) (R : List (List UInt8)) : Prop :=
  0 < R.length → ∃ b off, A = some ⟨b, off, none⟩ ∧ b < w.heap.size ∧ ¬ O b ∧ ∀ j (h : j < R.length), w.cell? ⟨b, off + j, none⟩ = some (vStr R[j])
theorem TRow.nil {O : Nat → Prop} {w : World} {A : Option Addr} : TRow O w A [] := fun h => absurd h (by simp)
theorem TRow.step {O O' : Nat → Prop} {w w' : World} {A : Option Addr} {R : List (List UInt8)} (h : TRow O w A R) (k : MStep O O' w w') : TRow O' w' A R := fun h0 => by
  obtain ⟨b, off, rfl, hl, hn, hc⟩ := h h0
  refine ⟨b, off, rfl, Nat.lt_of_lt_of_le hl k.fr.size, fun ho => ?_, fun j hj => ?_⟩
  · rcases k.own b ho with h1 | h1
    · exact hn h1
    · omega
  · rw [← hc j hj]
    exact World.cell?_of_block (k.fr.block b hl hn)
theorem TRow.below {O : Nat → Prop} {w w' : World} {A : Option Addr} {R : List (List UInt8)} (h : TRow O w A R) (hb : Below w.heap.size w w') : TRow O w' A R := h.step (MStep.of_below hb)
theorem TRow.any {O : Nat → Prop} {w : World} {A : Option Addr} {R : List (List UInt8)} (h : TRow O w A R) : TRow (fun _ => False) w A R := fun h0 => by
  obtain ⟨b, off, rfl, hl, hn, hc⟩ := h h0
  exact ⟨b, off, rfl, hl, (fun h => h), hc⟩
theorem TRow.sub {O O' : Nat → Prop} {w : World} {A : Option Addr} {R : List (List UInt8)} (h : TRow O w A R) (hs : ∀ b, b < w.heap.size → O' b → O b) : TRow O' w A R := fun h0 => by
  obtain ⟨b, off, rfl, hl, hn, hc⟩ := h h0
  exact ⟨b, off, rfl, hl, (fun h => hn (hs b hl h)), hc⟩
theorem TRow.take {O : Nat → Prop} {w : World} {A : Option Addr} {R : List (List UInt8)} (h : TRow O w A R) (n : Nat) : TRow O w A (R.take n) := fun h0 => by
  rw [List.length_take] at h0
  obtain ⟨b, off, rfl, hl, hn, hc⟩ := h (by omega)
  refine ⟨b, off, rfl, hl, hn, fun j hj => ?_⟩
  rw [List.length_take] at hj
  rw [hc j (by omega), List.getElem_take]
/-- an owned slice is such a list. -/
theorem TRow.of_own {O : Nat → Prop} {w : World} {B : Nat} {v : Value} {R : List (List UInt8)} (h : w.ownsRow B 9 1 v R.length (R.map vStr)) (hO : ∀ b, v.ownBlock = some b → ¬ O b) :
    ∃ A cap, v = .slice A R.length cap ∧ TRow O w A R := by
  obtain ⟨A, cap, rfl, hA⟩ := own_parts h
  refine ⟨A, cap, rfl, fun h0 => ?_⟩
  obtain ⟨g, rfl, hg, hc⟩ := hA h0
  refine ⟨g, 0, rfl, hg, hO g rfl, fun j hj => ?_⟩
  rw [Nat.zero_add, hc j (by omega)]
  simp [hj]

set_option maxHeartbeats 2000000 in
theorem sameT_any {O1 O2 : Nat → Prop} (A1 : Option Addr) (c1 : Nat) (A2 : Option Addr) (c2 : Nat) (R : List (List UInt8)) (w : World) (h1 : TRow O1 w A1 R) (h2 : TRow O2 w A2 R) (hl : R.length ≤ 1099511627776) :
    Calls Tryz.prog 24 #[.slice A1 R.length c1, .slice A2 R.length c2] w fun e w' => e = .returned (.bool true) ∧ Below w.heap.size w w' := by
  have H1 := Lib.hid h1; clear h1
  have H2 := Lib.hid h2; clear h2
  have hee : ((R.length : Int) != (R.length : Int)) = false := by simp
  go_enter Tryz.func24, Tryz.ntmps24
  go_wp2
  go_loopw [5] (fun i wr => ∃ (k m : Nat), k ≤ R.length ∧ i = .int .i64 k ∧ wr = w.drewN m) (fun i _ => R.length - (intOf i).toNat)
  case atStart => exact ⟨0, 0, Nat.zero_le _, rfl, rfl⟩
  case round =>
    obtain ⟨k, m, hk, rfl, rfl⟩ := hrel
    by_cases hlt : k < R.length
    · obtain ⟨b1, o1, rfl, hb1, _, hc1⟩ := H1.out (by omega)
      obtain ⟨b2, o2, rfl, hb2, _, hc2⟩ := H2.out (by omega)
      have k1 : w.cell? ⟨b1, o1 + k, none⟩ = some (.string (bs R[k])) := hc1 k hlt
      have k2 : w.cell? ⟨b2, o2 + k, none⟩ = some (.string (bs R[k])) := hc2 k hlt
      clear hc1 hc2
      generalize bs R[k] = x at *
      have hi0 : (0 : Int) ≤ (k : Int) := by omega
      have hi1 : (k : Int) < (R.length : Int) := by omega
      go_wp2
      go_quiet (fail)
      go_wp2
      go_roundw
      case rel => exact ⟨k + 1, m + nq, by omega, by go_num, rfl⟩
      case measure => simp [intOf]; omega
    · obtain rfl : k = R.length := by omega
      go_wp2
      go_ret
      exact ⟨rfl, below_drew w m⟩

/-- an operation. -/
structure JOp where
  k : Int
  s : ByteArray
  n : Int
  kl : List Int
structure JOpOk (x : JOp) : Prop where
  k : In64 x.k
  n : In64 x.n
  s : x.s.size ≤ 9223372036854775807
  len : x.kl.length ≤ 9223372036854775807
def opVals (x : JOp) (A : Option Addr) (cap : Nat) : List Value := [.int .i64 x.k, .string x.s, .int .i64 x.n, .slice A x.kl.length cap]
def Ops (w : World) (A : Option Addr) (l : List JOp) : Prop := 0 < l.length → ∃ b off, A = some ⟨b, off, none⟩ ∧ b < w.heap.size ∧
  ∀ i (h : i < l.length), ∃ AK ck, (AK = none → ck = 0) ∧ JRow w AK l[i].kl ∧ ∀ j u, (opVals l[i] AK ck)[j]? = some u → w.cell? ⟨b, off + i * 4 + j, none⟩ = some u
theorem Ops.below {w w' : World} {A : Option Addr} {l : List JOp} (h : Ops w A l) (hb : Below w.heap.size w w') : Ops w' A l := fun h0 => by
  obtain ⟨b, off, rfl, hl, hc⟩ := h h0
  refine ⟨b, off, rfl, Nat.lt_of_lt_of_le hl hb.size, fun i hi => ?_⟩
  obtain ⟨AK, ck, hz, hr, hcc⟩ := hc i hi
  exact ⟨AK, ck, hz, hr.below hb, fun j u hj => (hb.cell (p := ⟨b, off + i * 4 + j, none⟩) hl).trans (hcc j u hj)⟩
def JFew (l : List JOp) : Prop := l.length ≤ 25 ∧ ∀ x ∈ l, x.s.size ≤ 200 ∧ x.kl.length ≤ 50
def JFewPost (l : List JOp) (w : World) (e : Ending) (w' : World) : Prop := ∃ b : Bool, e = .returned (.bool b) ∧ (b = true → JFew l) ∧ Below w.heap.size w w'
theorem no_jfew {l : List JOp} {w : World} (n : Nat) : JFewPost l w (.returned (.bool false)) (w.drewN n) := ⟨false, rfl, (fun h => nomatch h), below_drew w n⟩

set_option maxHeartbeats 4000000 in
theorem jfew_any (A : Option Addr) (cap : Nat) (l : List JOp) (w : World) (hl : l.length ≤ 9223372036854775807) (hok : ∀ v ∈ l, JOpOk v) (hA : Ops w A l) :
    Calls Tryz.prog 5 #[.slice A l.length cap] w (JFewPost l w) := by
  have HO := Lib.hid hok; clear hok
  have HA := Lib.hid hA; clear hA
  go_enter Tryz.func5, Tryz.ntmps5
  go_wp2
  go_loopw [3] (fun i wr => ∃ (k m : Nat), k ≤ l.length ∧ i = .int .i64 k ∧ Hid (∀ j (h : j < l.length), j < k → l[j].s.size ≤ 200 ∧ l[j].kl.length ≤ 50) ∧ wr = w.drewN m) (fun i _ => l.length - (intOf i).toNat)
  case atStart => exact ⟨0, 0, Nat.zero_le _, rfl, Lib.hid (fun j _ h => absurd h (by omega)), rfl⟩
  case round =>
    obtain ⟨k, m, hk, rfl, hP, rfl⟩ := hrel
    by_cases hlt : k < l.length
    · obtain ⟨b, off, rfl, hb, hv⟩ := HA.out (by omega)
      obtain ⟨AK, ck, _, _, hc⟩ := hv k hlt
      have v1 := hc 1 _ rfl
      have v3 := hc 3 _ rfl
      have hok := HO.out l[k] (List.getElem_mem hlt)
      have hz := hok.s
      have hy := hok.len
      have hnext : Hid (l[k].s.size ≤ 200 → l[k].kl.length ≤ 50 → ∀ j (h : j < l.length), j < k + 1 → l[j].s.size ≤ 200 ∧ l[j].kl.length ≤ 50) := Lib.hid (fun h1 h2 j h hj => by
        by_cases e : j < k
        · exact hP.out j h e
        · obtain rfl : j = k := by omega
          exact ⟨h1, h2⟩)
      clear hc hv hok hP
      generalize l[k] = v at *
      have hi0 : (0 : Int) ≤ (k : Int) := by omega
      have hi1 : (k : Int) < (l.length : Int) := by omega
      by_cases h1 : v.s.size ≤ 200
      · have h1' : (v.s.size : Int) ≤ 200 := by omega
        by_cases h2 : v.kl.length ≤ 50
        · have h2' : (v.kl.length : Int) ≤ 50 := by omega
          have HNN := Lib.hid (hnext.out h1 h2)
          clear hnext
          go_wp2
          go_roundw
          case rel => exact ⟨k + 1, m, by omega, by go_num, HNN, rfl⟩
          case measure => simp [intOf]; omega
        · have h2' : (50 : Int) < (v.kl.length : Int) := by omega
          go_wp2
          go_ret
          exact no_jfew m
      · have h1' : (200 : Int) < (v.s.size : Int) := by omega
        go_wp2
        go_ret
        exact no_jfew m
    · obtain rfl : k = l.length := by omega
      have hfull : Hid (∀ x ∈ l, x.s.size ≤ 200 ∧ x.kl.length ≤ 50) := Lib.hid (fun x hx => by
        obtain ⟨j, hj, rfl⟩ := List.getElem_of_mem hx
        exact hP.out j hj hj)
      go_wp2
      go_ret
      exact ⟨decide ((l.length : Int) ≤ 25), rfl, fun h => ⟨by have := of_decide_eq_true h; omega, hfull.out⟩, below_drew w m⟩

/-- strings that came in. -/
def SRow (w : World) (A : Option Addr) (l : List ByteArray) : Prop :=
  0 < l.length → ∃ b off, A = some ⟨b, off, none⟩ ∧ b < w.heap.size ∧ ∀ j (h : j < l.length), w.cell? ⟨b, off + j, none⟩ = some (.string l[j])
theorem SRow.below {w w' : World} {A : Option Addr} {l : List ByteArray} (h : SRow w A l) (hb : Below w.heap.size w w') : SRow w' A l := fun h0 => by
  obtain ⟨b, off, rfl, hl, hc⟩ := h h0
  exact ⟨b, off, rfl, Nat.lt_of_lt_of_le hl hb.size, fun j hj => (hb.cell (p := ⟨b, off + j, none⟩) hl).trans (hc j hj)⟩
end Go.Proofs.YtbpkcgkcamkggaaGreatDoor
namespace Go.Proofs.YtbpkcgkcamkggaaGreatDoor
open Go.RowKit W

/-- a disk and a journal of it, that have come into being since W. -/
structure JH (W : World) (r : Nat) (L : Lay) (d : Dk) (n : Nat) (rj : Nat) (v : Value) (f : Int) (R : List (List UInt8)) (bad : Bool) (w : World) : Prop where
  disk : DAt r L d n w
  jrn : JAt rj v r f R bad w
  bel : Below W.heap.size W w
  own : ∀ b, MO r L rj v b → W.heap.size ≤ b

theorem MStep.widen {O P O' : Nat → Prop} {w w' : World} (h : MStep O O' w w') (hs : ∀ b, O b → P b) : MStep P O' w w' := ⟨h.fr.widen hs, fun b hb => (h.own b hb).imp (hs b) id⟩
theorem MStep.sub {O O' P : Nat → Prop} {w w' : World} (h : MStep O O' w w') (hs : ∀ b, P b → O' b) : MStep O P w w' := ⟨h.fr, fun b hb => h.own b (hs b hb)⟩
theorem MStep.of_p {r : Nat} {L L' : Lay} {w w' : World} (k : PStep r L L' w w') : MStep (Own r L) (Own r L') w w' := ⟨k.fr, k.own⟩

section
variable {W : World} {r : Nat} {L L' : Lay} {d d' : Dk} {n n' : Nat} {rj : Nat} {v v' : Value} {f : Int} {R R' : List (List UInt8)} {bad bad' : Bool} {w w' : World}
theorem JH.held (h : JH W r L d n rj v f R bad w) : Held W r L d n w := ⟨h.disk, h.bel, fun b hb => h.own b (.inl hb)⟩
theorem JH.lt (h : JH W r L d n rj v f R bad w) {b : Nat} (hb : MO r L rj v b) : b < w.heap.size := by
  rcases hb with hb | hb
  · exact h.disk.own_lt hb
  · exact h.jrn.lt hb
theorem JH.to (h : JH W r L d n rj v f R bad w) (hd : DAt r L' d' n' w') (hj : JAt rj v' r f R' bad' w') (k : MStep (MO r L rj v) (MO r L' rj v') w w') : JH W r L' d' n' rj v' f R' bad' w' :=
  ⟨hd, hj, h.bel.trans (k.fr.below h.bel.size h.own), fun b hb => by
    rcases k.own b hb with h1 | h1
    · exact h.own b h1
    · exact Nat.le_trans h.bel.size h1⟩
theorem JH.step (h : JH W r L d n rj v f R bad w) (hd : DAt r L' d' n' w') (k : PStep r L L' w w') : JH W r L' d' n' rj v f R bad w' ∧ MStep (MO r L rj v) (MO r L' rj v) w w' :=
  ⟨h.to hd (h.jrn.far h.disk k) (MStep.disk k rj v), MStep.disk k rj v⟩
theorem JH.below (h : JH W r L d n rj v f R bad w) (hb : Below w.heap.size w w') : JH W r L d n rj v f R bad w' := h.to (h.disk.below hb) (h.jrn.below hb) (MStep.of_below hb)
theorem JH.mono (h : JH W r L d n rj v f R bad w) (hn : n ≤ n') : JH W r L d n' rj v f R bad w := ⟨h.disk.mono hn, h.jrn, h.bel, h.own⟩

/-- what Open gives in a law. -/
def HOpen (W : World) (r : Nat) (L : Lay) (d : Dk) (n : Nat) (f : Int) (w : World) (e : Ending) (w' : World) : Prop :=
  ((jopen d f).2.1 ≠ 0 ∧ e = .returned (.tuple #[.pointer none, .int .i64 (jopen d f).2.1]) ∧ ∃ L', Held W r L' (jopen d f).1 n w' ∧ MStep (Own r L) (Own r L') w w') ∨
  ((jopen d f).2.1 = 0 ∧ ∃ L' rj v, e = .returned (.tuple #[.pointer (some ⟨rj, 0, none⟩), .int .i64 0]) ∧ JH W r L' (jopen d f).1 n rj v f (jopen d f).2.2 false w' ∧ MStep (Own r L) (MO r L' rj v) w w')
theorem hOpen (h : Held W r L d n w) (hn : n ≤ 137438953472) (h64 : In64 f) : Calls Tryz.prog 8 #[.pointer (some ⟨r, 0, none⟩), .int .i64 f] w (HOpen W r L d n f w) :=
  (jopen_any h.at_ hn h64).mono fun e w' ⟨L', hd, k, hor⟩ => by
    have hh := h.step hd k
    rcases hor with ⟨h1, h2⟩ | ⟨h1, rj, v, h2, hj, ho⟩
    · exact .inl ⟨h1, h2, L', hh, MStep.of_p k⟩
    · refine .inr ⟨h1, L', rj, v, h2, ⟨hd, hj, hh.bel, fun b hb => ?_⟩, ⟨k.fr, fun b hb => ?_⟩⟩
      · rcases hb with hb | hb
        · exact hh.own b hb
        · exact Nat.le_trans h.bel.size (ho b hb)
      · rcases hb with hb | hb
        · exact k.own b hb
        · exact .inr (ho b hb)
/-- Open where it succeeds. -/
theorem hOpen_ok (h : Held W r L d n w) (hn : n ≤ 137438953472) (h64 : In64 f) (h0 : (jopen d f).2.1 = 0) : Calls Tryz.prog 8 #[.pointer (some ⟨r, 0, none⟩), .int .i64 f] w fun e w' =>
    ∃ L' rj v, e = .returned (.tuple #[.pointer (some ⟨rj, 0, none⟩), .int .i64 0]) ∧ JH W r L' (jopen d f).1 n rj v f (jopen d f).2.2 false w' ∧ MStep (Own r L) (MO r L' rj v) w w' :=
  (hOpen h hn h64).mono fun e w' hor => by
    rcases hor with ⟨h1, _⟩ | ⟨_, h2⟩
    · exact absurd h0 h1
    · exact h2

/-- what All gives in a law. -/
def HAll (W : World) (r : Nat) (L : Lay) (d : Dk) (n : Nat) (rj : Nat) (v : Value) (f : Int) (R : List (List UInt8)) (bad : Bool) (w : World) (e : Ending) (w' : World) : Prop :=
  ∃ A cap, e = .returned (.slice A R.length cap) ∧ R.length ≤ cap ∧ TRow (MO r L rj v) w' A R ∧ JH W r L d n rj v f R bad w' ∧ Below w.heap.size w w'
theorem own_cap {w : World} {B e size n : Nat} {A : Option Addr} {m c : Nat} {xs : List Value} (h : w.ownsRow B e size (.slice A m c) n xs) : n ≤ c := by
  rcases h.2 with ⟨h1, rfl⟩ | ⟨g, cap, cur, h1, _, _, h4⟩
  · exact Nat.zero_le _
  · cases h1
    exact h4.1
theorem hAll (h : JH W r L d n rj v f R bad w) (hR : R.length ≤ 1099511627776) : Calls Tryz.prog 25 #[.pointer (some ⟨rj, 0, none⟩)] w (HAll W r L d n rj v f R bad w) :=
  (jall_any h.jrn hR).mono fun e w' ⟨v1, he, ho, hb⟩ => by
    obtain ⟨A, cap, rfl, hA⟩ := TRow.of_own (O := MO r L rj v) ho (fun b hb2 hm => by
      have := (ho.lt b hb2).1
      have := h.lt hm
      omega)
    exact ⟨A, cap, he, own_cap ho, hA, h.below hb, hb⟩

/-- what a writing method of the journal leaves in a law. -/
def HJLeft (W : World) (r : Nat) (L : Lay) (d' : Dk) (n' : Nat) (rj : Nat) (v : Value) (f : Int) (R' : List (List UInt8)) (bad' : Bool) (res : Int) (w : World) (e : Ending) (w' : World) : Prop :=
  e = .returned (.int .i64 res) ∧ ∃ L' v', JH W r L' d' n' rj v' f R' bad' w' ∧ MStep (MO r L rj v) (MO r L' rj v') w w'
theorem JH.left (h : JH W r L d n rj v f R bad w) {res : Int} {e : Ending} (k : JLeft r L rj v f d' n' R' bad' res w e w') : HJLeft W r L d' n' rj v f R' bad' res w e w' := by
  obtain ⟨he, L', v', hd, hj, _, hs⟩ := k
  exact ⟨he, L', v', h.to hd hj hs, hs⟩
theorem hJSync (h : JH W r L d n rj v f R bad w) (hn : n ≤ 137438953472) (h64 : In64 f) : Calls Tryz.prog 14 #[.pointer (some ⟨rj, 0, none⟩)] w (HJLeft W r L (jsync d f bad).1 n rj v f R (jsync d f bad).2.2 (jsync d f bad).2.1 w) :=
  (jsync_any h.disk h.jrn hn h64).mono fun e w' k => h.left k
theorem hAppend (h : JH W r L d n rj v f R bad w) (hn : n ≤ 137438953472) (h64 : In64 f) (ht : Tab W) (s : ByteArray) (hs : s.size ≤ 30000) (hR : (forms R).length ≤ 16777216) :
    Calls Tryz.prog 12 #[.pointer (some ⟨rj, 0, none⟩), .string s] w (HJLeft W r L (jappend d f R bad s.data.toList).1 (n + s.size + 50) rj v f (jappend d f R bad s.data.toList).2.2.1 (jappend d f R bad s.data.toList).2.2.2 (jappend d f R bad s.data.toList).2.1 w) :=
  (jappend_any h.disk h.jrn hn h64 (ht.on h.bel) s (by omega) hR).mono fun e w' k => h.left k
/-- .. whose result is known. -/
theorem hAppend_is (h : JH W r L d n rj v f R bad w) (hn : n ≤ 137438953472) (h64 : In64 f) (ht : Tab W) (s : ByteArray) (hs : s.size ≤ 30000) (hR : (forms R).length ≤ 16777216) {d2 : Dk} {c : Int} {R2 : List (List UInt8)} {b2 : Bool} (hj : jappend d f R bad s.data.toList = (d2, c, R2, b2)) :
    Calls Tryz.prog 12 #[.pointer (some ⟨rj, 0, none⟩), .string s] w (HJLeft W r L d2 (n + s.size + 50) rj v f R2 b2 c w) := by
  have := hAppend h hn h64 ht s hs hR
  rw [hj] at this
  exact this

/-- what a writing method of the disk leaves, beside a journal. -/
def HDLeft (W : World) (r : Nat) (L : Lay) (d' : Dk) (n' : Nat) (rj : Nat) (v : Value) (f : Int) (R : List (List UInt8)) (bad : Bool) (res : Value) (w : World) (e : Ending) (w' : World) : Prop :=
  e = .returned res ∧ ∃ L', JH W r L' d' n' rj v f R bad w' ∧ MStep (MO r L rj v) (MO r L' rj v) w w'
theorem JH.dleft (h : JH W r L d n rj v f R bad w) {res : Value} {e : Ending} (k : MLeft r L d' n' res w e w') : HDLeft W r L d' n' rj v f R bad res w e w' := by
  obtain ⟨he, L', hd, hs⟩ := k
  obtain ⟨h1, h2⟩ := h.step hd hs
  exact ⟨he, L', h1, h2⟩
theorem jLose (h : JH W r L d n rj v f R bad w) {k : Int} (h64 : In64 k) : Calls Tryz.prog 16 #[.pointer (some ⟨r, 0, none⟩), .int .i64 k] w (HDLeft W r L (d.lose k) n rj v f R bad (.tuple #[]) w) :=
  (mLose h.disk h64).mono fun e w' k => h.dleft k
theorem jArm (h : JH W r L d n rj v f R bad w) {k : Int} (h64 : In64 k) {A : Option Addr} {l : List Int} (cap : Nat) (hr : JRow W A l) (hl : l.length ≤ 60) : Calls Tryz.prog 18 #[.pointer (some ⟨r, 0, none⟩), .int .i64 k, .slice A l.length cap] w (HDLeft W r L (d.arm k l) n rj v f R bad (.tuple #[]) w) :=
  (mArm h.disk h64 (hr.krd h.bel h.held.own cap).irow (by omega)).mono fun e w' k => h.dleft k
theorem jWrite (h : JH W r L d n rj v f R bad w) (hn : n ≤ 137438953472) {g a : Int} (h64 : In64 g) (ha : In64 a) (s : ByteArray) (hs : s.size ≤ 16777216) : Calls Tryz.prog 30 #[.pointer (some ⟨r, 0, none⟩), .int .i64 g, .int .i64 a, .string s] w (HDLeft W r L (d.write g a s.data.toList).1 (n + s.size + 2) rj v f R bad (.int .i64 (d.write g a s.data.toList).2) w) :=
  (mWrite h.disk hn h64 ha s hs).mono fun e w' k => h.dleft k
def HJRead (W : World) (r : Nat) (L : Lay) (d : Dk) (n : Nat) (rj : Nat) (v : Value) (f : Int) (R : List (List UInt8)) (bad : Bool) (res : List UInt8 × Int) (w : World) (e : Ending) (w' : World) : Prop :=
  ∃ s : ByteArray, e = .returned (.tuple #[.string s, .int .i64 res.2]) ∧ s.data.toList = res.1 ∧ JH W r L d n rj v f R bad w' ∧ Below w.heap.size w w'
theorem jRead (h : JH W r L d n rj v f R bad w) (hn : n ≤ 137438953472) {g a k : Int} (h64 : In64 g) (ha : In64 a) (hk : In64 k) : Calls Tryz.prog 26 #[.pointer (some ⟨r, 0, none⟩), .int .i64 g, .int .i64 a, .int .i64 k] w (HJRead W r L d n rj v f R bad (d.read g a k) w) :=
  (mRead h.disk hn h64 ha hk).mono fun e w' ⟨s, he, hs, hb⟩ => ⟨s, he, hs, h.below hb, hb⟩
end

end Go.Proofs.YtbpkcgkcamkggaaGreatDoor
