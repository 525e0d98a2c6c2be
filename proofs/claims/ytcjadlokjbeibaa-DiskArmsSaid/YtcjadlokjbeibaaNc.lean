/-
  played, after, byteAt.
-/
import Derived.Test.YtcjadlokjbeibaaNb
set_option linter.unusedVariables false
namespace Go.Proofs.Ytcjadlokjbeibaa
open Go.RowKit

/-- the model's disk after the acts. -/
def run (d : Dk) (l : List DAct) : Dk := l.foldl (fun d x => (astep d x).1) d
theorem run_snoc (d : Dk) (l : List DAct) (k : Nat) (h : k < l.length) : run d (l.take (k + 1)) = (astep (run d (l.take k)) l[k]).1 := by
  unfold run
  rw [List.take_succ_eq_append_getElem h, List.foldl_append]; rfl

def Played (W : World) (d : Dk) (e : Ending) (w' : World) : Prop := ∃ r L, e = .returned (.pointer (some ⟨r, 0, none⟩)) ∧ Held W r L d 20000 w'

set_option maxRecDepth 100000 in
set_option maxHeartbeats 4000000 in
theorem played_any (W : World) (A : Option Addr) (cap : Nat) (l : List DAct) (w : World) (hw : Below W.heap.size W w) (hf : Few l) (hok : ∀ v ∈ l, ActOk v) (hA : Acts W A l) :
    Calls Try.prog 22 #[.slice A l.length cap] w (Played W (run Dk.new l)) := by
  have HO := Lib.hid hok; clear hok
  have HA := Lib.hid hA; clear hA
  have hl := hf.1
  have HF := Lib.hid hf.2
  have HW := Lib.hid hw
  clear hf hw
  go_enter Try.func22, Try.ntmps22
  go_wp2_with fail
  refine (hNew HW.out).mono ?_
  rintro e w2 ⟨r, L, rfl, hh, hbn, hon⟩
  have HH := Lib.hid hh
  clear hh HW hbn hon
  go_wp2
  go_loopw [4] (fun i wr => ∃ (k : Nat), k ≤ l.length ∧ i = .int .i64 k ∧ Hid (∃ L, Held W r L (run Dk.new (l.take k)) (302 * k) wr)) (fun i _ => l.length - (intOf i).toNat)
  case atStart => exact ⟨0, Nat.zero_le _, rfl, Lib.hid ⟨L, HH.out⟩⟩
  case round =>
    clear HH L
    obtain ⟨k, hk, rfl, hh⟩ := hrel
    obtain ⟨L, hh⟩ := hh.out
    by_cases hlt : k < l.length
    · obtain ⟨b, off, rfl, hb, hv⟩ := HA.out (by omega)
      obtain ⟨AK, ck, hr, hc⟩ := hv k hlt
      have v0 := (hh.bel.cell (p := ⟨b, off + k * 5 + 0, none⟩) hb).trans (hc 0 _ rfl)
      have v1 := (hh.bel.cell (p := ⟨b, off + k * 5 + 1, none⟩) hb).trans (hc 1 _ rfl)
      have v2 := (hh.bel.cell (p := ⟨b, off + k * 5 + 2, none⟩) hb).trans (hc 2 _ rfl)
      have v3 := (hh.bel.cell (p := ⟨b, off + k * 5 + 3, none⟩) hb).trans (hc 3 _ rfl)
      have v4 := (hh.bel.cell (p := ⟨b, off + k * 5 + 4, none⟩) hb).trans (hc 4 _ rfl)
      rw [Nat.add_zero] at v0
      have hok := HO.out l[k] (List.getElem_mem hlt)
      have ⟨f1, f2⟩ := HF.out l[k] (List.getElem_mem hlt)
      have hsn := run_snoc Dk.new l k hlt
      clear hc hv
      generalize l[k] = v at *
      have HC := Lib.hid (hDo hh (by omega) v hok f1 f2 (A := AK) (cap := ck) hr)
      rw [← hsn] at HC
      clear hh hok hsn hr f1 f2
      have hi0 : (0 : Int) ≤ (k : Int) := by omega
      have hi1 : (k : Int) < (l.length : Int) := by omega
      go_wp2_with fail
      refine HC.out.mono ?_
      rintro e w5 ⟨rfl, h5⟩
      have H5 := Lib.hid h5
      clear h5 HC
      go_wp2
      go_roundw
      case rel => exact ⟨k + 1, by omega, by go_num, H5⟩
      case measure => simp [intOf]; omega
    · obtain rfl : k = l.length := by omega
      rw [List.take_length] at hh
      have HE := Lib.hid hh
      clear hh
      go_wp2
      go_ret
      exact ⟨r, L, rfl, HE.out.mono (by omega)⟩

/-- what after gives: the file of a copy after a crash. -/
def AfterPost (d : Dk) (f : Int) (keep : List Int) (w : World) (e : Ending) (w' : World) : Prop :=
  ∃ (s : ByteArray) (b : Bool), e = .returned (.tuple #[.string s, .bool b]) ∧ (Dk.fileOk f → b = true ∧ s.data.toList = (d.crash keep).now f) ∧ Below w.heap.size w w'
set_option maxRecDepth 100000 in
set_option maxHeartbeats 4000000 in
theorem after_any {W : World} {r : Nat} {L : Lay} {d : Dk} {n : Nat} {w : World} (h : Held W r L d n w) (hn : n ≤ 137438953472) {f : Int} (h64 : In64 f) {A : Option Addr} {l : List Int} (cap : Nat) (hr : JRow w A l) (hl : l.length ≤ 60) :
    Calls Try.prog 23 #[.pointer (some ⟨r, 0, none⟩), .int .i64 f, .slice A l.length cap] w (AfterPost d f l w) := by
  have H := Lib.hid h
  have HR := Lib.hid hr
  have H64 := Lib.hid h64
  have HX : Hid (∀ e : Dk, Dk.Ok e → e = (d.crash l).start → Dk.fileOk f → e.read f 0 16777216 = ((d.crash l).now f, 0)) := Lib.hid (fun e he hee hf => by
    rw [Dk.read_all he hf (by rw [hee]; rfl), hee]; rfl)
  clear h hr h64
  go_enter Try.func23, Try.ntmps23
  go_wp2_with fail
  refine (mCopy H.out.at_ hn).mono ?_
  rintro e w2 ⟨r2, L2, rfl, hd2, hb2, ho2⟩
  have H2 : Hid (Held w r2 L2 d n w2) := Lib.hid ⟨hd2, hb2, ho2⟩
  clear hd2 hb2 ho2 H
  go_wp2_with fail
  refine (hCrash H2.out hn cap HR.out hl).mono ?_
  rintro e w3 ⟨rfl, L3, h3⟩
  have H3 := Lib.hid h3
  clear h3 H2 HR
  go_wp2_with fail
  refine (hStart H3.out).mono ?_
  rintro e w4 ⟨rfl, L4, h4⟩
  have H4 := Lib.hid h4
  clear h4 H3
  go_wp2_with fail
  refine (hRead H4.out hn H64.out (by unfold In64; omega) (by unfold In64; omega)).mono ?_
  rintro e w5 ⟨s, rfl, hs, h5⟩
  have hx : Hid (Dk.fileOk f → ((d.crash l).start.read f 0 16777216).2 = 0 ∧ s.data.toList = (d.crash l).now f) := Lib.hid (fun hf => by
    have := HX.out _ H4.out.at_.ok rfl hf
    exact ⟨by rw [this], by rw [hs, this]⟩)
  have H5 := Lib.hid h5
  clear h5 hs HX H4
  generalize ((d.crash l).start.read f 0 16777216).2 = c at *
  go_wp2
  go_ret2
  exact ⟨s, _, rfl, fun hf => ⟨by simp [(hx.out hf).1], (hx.out hf).2⟩, H5.out.bel⟩

/-- byteAt. -/
theorem byteAt_any (s : ByteArray) (i : Int) (w : World) (h64 : In64 i) (hs : s.size ≤ 9223372036854775807) (hi : 0 ≤ i) :
    Calls Try.prog 24 #[.string s, .int .i64 i] w fun e w' => e = .returned (.int .u8 ((s.data.toList.getD i.toNat 0).toNat : Int)) ∧ w' = w := by
  have hsl : s.data.toList.length = s.size := Array.length_toList
  by_cases hlt : i < s.size
  · have hg : Hid (s.data.toList.getD i.toNat 0 = s.data.toList[i.toNat]'(by omega)) := Lib.hid (by rw [List.getD_eq_getElem?_getD, List.getElem?_eq_getElem (by omega)]; rfl)
    go_enter Try.func24, Try.ntmps24
    go_wp2
    go_ret
    exact ⟨by rw [hg.out]; rfl, rfl⟩
  · have hge : (s.size : Int) ≤ i := by omega
    have hg : Hid (s.data.toList.getD i.toNat 0 = 0) := Lib.hid (by rw [List.getD_eq_getElem?_getD, List.getElem?_eq_none (by omega)]; rfl)
    go_enter Try.func24, Try.ntmps24
    go_wp2
    go_ret
    exact ⟨rfl, rfl⟩

end Go.Proofs.Ytcjadlokjbeibaa
