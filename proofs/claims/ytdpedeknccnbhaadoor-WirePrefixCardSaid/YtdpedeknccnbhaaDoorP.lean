/-
  The walk of WireBack.
-/
import Derived.Test.YtdpedeknccnbhaaDoorO
set_option linter.unusedVariables false
namespace Go.Proofs.YtdpedeknccnbhaaDoor
open Go.RowKit Go.Sort

theorem fl_le {α : Type} (g : α → List UInt8) (m : Nat) (l : List α) (h : ∀ x ∈ l, (g x).length ≤ m) (k : Nat) (hk : k ≤ l.length) : ((l.take k).flatMap g).length ≤ m * k := by
  have := fl_len g m (l.take k) (fun x hx => h x (List.mem_of_mem_take hx))
  rw [List.length_take, Nat.min_eq_left hk] at this
  exact this
theorem enc_len {v : Val} (hs : Small v) (hok : VOk v) : (enc v).length ≤ 200000 := by
  rcases kind_range v.K with h | h | h | h | h
  · rw [enc0 h]; have := eInt_len _ (number_in hok.2.1).2; omega
  · rw [enc1 h]; have := eInt_len _ hok.2.1; omega
  · rw [enc2 h]; have := eText_len v.S.data.toList (by rw [size_list]; exact hok.2.2.1); rw [size_list] at this; have := hs.s; omega
  · rw [enc3 h]
    have h1 := fl_len eInt 21 v.L (fun x hx => (eInt_len x (hok.2.2.2.2.2.1 x hx)).2)
    have h2 := dec_len v.L.length (by have := hs.l; omega)
    have := hs.l
    unfold eList
    simp only [List.length_append, List.length_cons, List.length_nil]
    omega
  · rw [enc4 h]
    have h1 := hs.tot
    have h2 := dec_len v.T.length (by have := hs.t; omega)
    unfold eList
    simp only [List.length_append, List.length_cons, List.length_nil]
    omega
theorem vsz_mem : ∀ (l : List Val) (v : Val), v ∈ l → vsz v ≤ (l.map vsz).sum
  | [], _, h => by cases h
  | x :: l, v, h => by
    simp only [List.map_cons, List.sum_cons]
    rcases List.mem_cons.1 h with rfl | h
    · omega
    · have := vsz_mem l v h; omega
theorem few_small {l : List Val} (h : Few l) (hok : ∀ v ∈ l, VOk v) : ∀ v ∈ l, Small v := fun v hv => small_of (Nat.le_trans (vsz_mem l v hv) h.2) (hok v hv)

theorem done_false (r : Nat) (s : ByteArray) (b : Bool) (hb : s.toList.isEmpty = b) (w : World) (hr : RdrAt 54 r s false w) :
    Calls Tryd.prog 38 #[.pointer (some ⟨r, 0, none⟩)] w fun e w' => e = .returned (.bool b) ∧ w = w' :=
  (done_any r s false w hr).mono fun _ _ ⟨he, hw⟩ => ⟨by rw [he, hb]; rfl, hw⟩
theorem empty_toList : (ByteArray.mk #[]).toList.isEmpty = true := by rw [Lib.toList_data]; rfl

theorem VAt.on {w w' : World} {b o : Nat} {v : Val} (h : VAt w b o v) (hb : Below w.heap.size w w') (hlt : b < w.heap.size) : VAt w' b o v := by
  obtain ⟨h0, h1, h2, ⟨AL, cL, h3, hL⟩, ⟨AT, cT, h4, hT⟩⟩ := h
  exact ⟨(hb.cell (p := ⟨b, o, none⟩) hlt).trans h0, (hb.cell (p := ⟨b, o + 1, none⟩) hlt).trans h1, (hb.cell (p := ⟨b, o + 2, none⟩) hlt).trans h2,
    ⟨AL, cL, (hb.cell (p := ⟨b, o + 3, none⟩) hlt).trans h3, hL.below hb⟩, ⟨AT, cT, (hb.cell (p := ⟨b, o + 4, none⟩) hlt).trans h4, hT.below hb⟩⟩

set_option maxRecDepth 100000 in
set_option maxHeartbeats 8000000 in
theorem back_walk (A : Option Addr) (cap : Nat) (l : List Val) (t : ByteArray) (w : World) (hl : l.length ≤ 9223372036854775807) (hok : ∀ v ∈ l, VOk v) (hA : Vals w A l) (htz : t.size ≤ 9223372036854775807) (ht : Tab w) :
    Calls Tryd.prog 5 #[.slice A l.length cap, .string t] w fun e w' => e = .returned (.bool true) ∧ Below w.heap.size w w' := by
  have HO := Lib.hid hok; clear hok
  have HA := Lib.hid hA; clear hA
  go_enter Tryd.func5, Tryd.ntmps5
  go_wp2_with fail
  refine (small_any _ ht).mono ?_
  rintro e w2 ⟨rfl, b2⟩
  have HV2 : Hid (Vals w2 A l) := Lib.hid (fun hn => by
    obtain ⟨b, off, e, hlt, hc⟩ := HA.out hn
    exact ⟨b, off, e, Nat.lt_of_lt_of_le hlt b2.size, fun j hj => (hc j hj).on b2 hlt⟩)
  go_wp2_with fail
  refine (few_any A cap l w2 hl HO.out HV2.out).mono ?_
  rintro e w3 ⟨b, rfl, hfew, n, rfl⟩
  have b3 := below_drewN b2 n
  clear HV2 b2
  cases b with
  | false =>
    go_wp2
    go_ret
    exact ⟨rfl, b3⟩
  | true =>
    have hf := hfew rfl
    have h20 := hf.1
    have HS := Lib.hid (few_small hf HO.out)
    clear hfew hf
    generalize World.drewN _ n = w3 at *
    by_cases ht4 : 400 < t.size
    · have ht4' : (400 : Int) < (t.size : Int) := by omega
      go_wp2
      go_ret
      exact ⟨rfl, b3⟩
    · have ht4' : (t.size : Int) ≤ 400 := by omega
      go_wp2
      go_loopw [6, 7] (fun s i wr => ∃ (k : Nat) (u : ByteArray), k ≤ l.length ∧ i = .int .i64 k ∧ s = .string u ∧ Hid (u.data.toList = (l.take k).flatMap enc) ∧ Below w.heap.size w wr) (fun _ i _ => l.length - (intOf i).toNat)
      case atStart => exact ⟨0, _, Nat.zero_le _, rfl, rfl, Lib.hid (by simp), b3⟩
      case round =>
        obtain ⟨k, u, hk, rfl, rfl, hu, bb⟩ := hrel
        clear b3
        have hlen := fl_le enc 200000 l (fun x hx => enc_len (HS.out x hx) (HO.out x hx)) k hk
        have hus : u.size ≤ 4000000 := by rw [size_of hu.out]; omega
        clear hlen
        by_cases hlt : k < l.length
        · obtain ⟨b, off, rfl, hbk, hv⟩ := HA.out (by omega)
          have hvk := (hv k hlt).on bb hbk
          have hsm := HS.out l[k] (List.getElem_mem hlt)
          have hov := HO.out l[k] (List.getElem_mem hlt)
          have hsn := fl_snoc enc l k hlt
          clear hv
          generalize l[k] = v at *
          obtain ⟨v0, v1, v2, ⟨AL, cL, v3, hL⟩, ⟨AT, cT, v4, hT⟩⟩ := hvk
          have hel := enc_len hsm hov
          have HW := Lib.hid (write_any v AL cL AT cT wr hov hsm hL hT (ht.on bb))
          have HSN := Lib.hid hsn
          clear hsn hL hT hsm hov
          have hi0 : (0 : Int) ≤ (k : Int) := by omega
          have hi1 : (k : Int) < (l.length : Int) := by omega
          go_wp2_with fail
          refine HW.out.mono ?_
          rintro e w5 ⟨s5, rfl, hs5, hb5⟩
          have hz5 := size_of hs5
          have hz6 : s5.size ≤ 200000 := by omega
          clear hz5
          have H5 := Lib.hid hs5; clear hs5
          have b5 := bb.trans (hb5.mono bb.size)
          go_wp2
          go_roundw
          case rel => exact ⟨k + 1, _, by omega, by go_num, rfl, Lib.hid (by rw [HSN.out, ← H5.out, ← hu.out]; simp), b5⟩
          case measure => simp [intOf]; omega
        · obtain rfl : k = l.length := by omega
          have hu2 : Hid (u.data.toList = l.flatMap enc) := Lib.hid (by have := hu.out; rwa [List.take_length] at this)
          go_wp2_with fail
          refine (open_any _ _).mono ?_
          rintro e w10 ⟨rfl, hw10⟩
          have hr : RdrAt 54 wr.heap.size (u ++ t) false w10 := by rw [hw10]; exact heap_alloc_new wr _
          have b10 : Below w.heap.size w w10 := by rw [hw10]; exact bb.alloc bb.size _
          have hge := bb.size
          have HR := Lib.hid hr
          have hd0 : Hid ((u ++ t).data.toList = (l.drop 0).flatMap enc ++ t.data.toList) := Lib.hid (by rw [List.drop_zero, ← hu2.out]; simp)
          have hsz0 : (u ++ t).size ≤ 5000000 := by rw [ByteArray.size_append]; omega
          generalize u ++ t = s0 at *
          generalize wr.heap.size = q at *
          clear hr hw10 bb hu hu2 hus
          go_wp2
          go_loopw [9] (fun i wr => ∃ (k : Nat) (s : ByteArray), k ≤ l.length ∧ i = .int .i64 k ∧ Hid (s.data.toList = (l.drop k).flatMap enc ++ t.data.toList) ∧ s.size ≤ 5000000 ∧ Hid (RdrAt 54 q s false wr) ∧ Below w.heap.size w wr) (fun i _ => l.length - (intOf i).toNat)
          case atStart => exact ⟨0, s0, Nat.zero_le _, rfl, hd0, hsz0, HR, b10⟩
          case round =>
            obtain ⟨k, s, hk, rfl, hs, hsz, hr, bb⟩ := hrel
            clear b10 HR
            by_cases hlt : k < l.length
            · obtain ⟨b, off, rfl, hbk, hv⟩ := HA.out (by omega)
              have hvk := hv k hlt
              have hvk2 := hvk.on bb hbk
              have hov := HO.out l[k] (List.getElem_mem hlt)
              have hdr : (l.drop k).flatMap enc ++ t.data.toList = enc l[k] ++ ((l.drop (k + 1)).flatMap enc ++ t.data.toList) := by
                rw [List.drop_eq_getElem_cons hlt, List.flatMap_cons, List.append_assoc]
              clear hv
              generalize l[k] = v at *
              obtain ⟨_, _, _, ⟨AL, cL, z3, hL⟩, ⟨AT, cT, z4, hT⟩⟩ := hvk
              have y3 := (bb.cell (p := ⟨b, off + k * 5 + 3, none⟩) hbk).trans z3
              have y4 := (bb.cell (p := ⟨b, off + k * 5 + 4, none⟩) hbk).trans z4
              obtain ⟨v0, v1, v2, _, _⟩ := hvk2
              have HE := Lib.hid (equal_any q s _ v AL cL AT cT w wr (hs.out.trans hdr) (by omega) hr.out bb hge hov hL hT)
              clear hdr hL hT hov z3 z4
              have hi0 : (0 : Int) ≤ (k : Int) := by omega
              have hi1 : (k : Int) < (l.length : Int) := by omega
              go_wp2_with fail
              refine HE.out.mono ?_
              rintro e w5 ⟨rfl, ⟨s5, hs5, hr5⟩, hg5⟩
              have b5 := bb.trans (below_of_grown hg5 bb.size hge)
              have hz5 : s5.size ≤ 5000000 := by
                have h1 := size_of hs5
                have h2 := size_of hs.out
                rw [List.drop_eq_getElem_cons hlt] at h2
                simp only [List.flatMap_cons, List.length_append] at h1 h2
                omega
              have H5 := Lib.hid hs5; clear hs5
              have HR5 := Lib.hid hr5; clear hr5
              go_wp2
              go_roundw
              case rel => exact ⟨k + 1, s5, by omega, by go_num, H5, hz5, HR5, b5⟩
              case measure => simp [intOf]; omega
            · obtain rfl : k = l.length := by omega
              have hst : s = t := by
                have := hs.out
                rw [List.drop_length] at this
                exact ByteArray.ext (Array.toList_inj.1 (by simpa using this))
              subst hst
              cases hem : s.toList.isEmpty
              all_goals
                go_wp2_with fail
                refine (left_any _ _ _ _ hr.out).mono ?_
                rintro e w12 ⟨rfl, rfl⟩
                go_wp2_with fail
                refine (done_false _ _ _ hem _ hr.out).mono ?_
                rintro e w12 ⟨rfl, rfl⟩
                go_wp2_with fail
                refine (rest_any _ _ _ _ hr.out).mono ?_
                rintro e w13 ⟨rfl, ⟨s13, hs13, hr13⟩, hg13⟩
                obtain rfl := empty_of hs13
                have b13 := bb.trans (below_of_grown hg13 bb.size hge)
                have HR13 := Lib.hid hr13; clear hr13
                go_wp2_with fail
                refine (done_false _ _ _ empty_toList _ HR13.out).mono ?_
                rintro e w14 ⟨rfl, rfl⟩
                go_wp2_with fail
                refine (left_any _ _ _ _ HR13.out).mono ?_
                rintro e w14 ⟨rfl, rfl⟩
                go_wp2
                go_ret
                exact ⟨rfl, b13⟩

end Go.Proofs.YtdpedeknccnbhaaDoor
