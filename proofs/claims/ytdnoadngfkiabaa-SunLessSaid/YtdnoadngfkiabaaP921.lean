/-
  Contracts of the program's layer 9, 6: form.
  From what is handed in to what the walks of layer 9 ask: a list of boxes, a list of slabs.
-/
import Derived.Test.YtdnoadngfkiabaaP912
import Derived.Test.YtdnoadngfkiabaaP918
import Derived.Test.YtdnoadngfkiabaaP920
import Derived.Test.YtdnoadngfkiabaaP919
import Derived.Test.YtdnoadngfkiabaaP916
set_option linter.unusedVariables false
set_option maxRecDepth 100000
namespace Go.Proofs.Ytdnoadngfkiabaa
open Go.RowKit Go.Lib

theorem take_two (X : List Int) (k : Nat) (h : k + 1 < X.length) : X.take (k + 1 + 1) = X.take k ++ [X[k]'(by omega), X[k + 1]] ∧ X.take (k + 1) = X.take k ++ [X[k]'(by omega)] := by
  have e1 : X.take (k + 1) = X.take k ++ [X[k]'(by omega)] := List.take_succ_eq_append_getElem (by omega)
  have e2 : X.take (k + 1 + 1) = X.take (k + 1) ++ [X[k + 1]] := List.take_succ_eq_append_getElem h
  exact ⟨by rw [e2, e1, List.append_assoc]; rfl, e1⟩
theorem solGo_next (sec : Int → List Rc) (X : List Int) (k : Nat) (h : k + 1 < X.length) : solGo sec [] (X.take (k + 1 + 1)) = joinS (solGo sec [] (X.take (k + 1))) ⟨X[k]'(by omega), X[k + 1], sec (X[k]'(by omega))⟩ := by
  obtain ⟨e1, e2⟩ := take_two X k h
  rw [e1, e2, solGo_step]
theorem solGo_pre (sec : Int → List Rc) (X : List Int) (k : Nat) (h : k < X.length) : (solGo sec [] (X.take (k + 1))).length ≤ (solGo sec [] X).length := by
  have e : X = X.take k ++ X[k] :: X.drop (k + 1) := by rw [← List.drop_eq_getElem_cons h, List.take_append_drop]
  have e2 : solGo sec [] X = solGo sec (solGo sec [] (X.take k ++ [X[k]])) (X[k] :: X.drop (k + 1)) := by
    conv => lhs; rw [e]
    exact solGo_app sec _ _ _ _
  rw [e2, List.take_succ_eq_append_getElem h]
  exact (solGo_len sec _ _).1
/-- the two heights that a round reads. -/
def Fx (g k : Nat) (x y : Int) (w0 w : World) : Prop := w.cell? ⟨g, k, none⟩ = some (.int .i64 x) ∧ w.cell? ⟨g, k + 1, none⟩ = some (.int .i64 y) ∧ g < w0.heap.size ∧ g < w.heap.size ∧ Hid (Below w0.heap.size w0 w)
theorem Fx.go {g k : Nat} {x y : Int} {w0 w w' : World} (h : Fx g k x y w0 w) (hb : Below w0.heap.size w w') : Fx g k x y w0 w' := by
  obtain ⟨h0, h1, h2, h3, h4⟩ := h
  exact ⟨(hb.cell (p := ⟨g, k, none⟩) h2).trans h0, (hb.cell (p := ⟨g, k + 1, none⟩) h2).trans h1, h2, Nat.lt_of_lt_of_le h3 hb.size, Lib.hid (h4.out.trans hb)⟩
theorem Fx.drewN {g k : Nat} {x y : Int} {w0 w : World} (h : Fx g k x y w0 w) (n : Nat) : Fx g k x y w0 (w.drewN n) := h.go (below_drewN (Below.refl _ _) n)
theorem Fx.of {g k : Nat} {x y : Int} {w0 w' : World} (h : Fx g k x y w0 w0) (hb : Below w0.heap.size w0 w') : Fx g k x y w0 w' := h.go hb
theorem capS_big {sec : Int → List Rc} {X : List Int} (hf : ∀ z, IsForm (sec z)) (hA : Asc X) (hZ : InZ X) (hC : Chg sec X) {z : Int} (h : 200 < (sec z).length) : capS (solGo sec [] X) = ([], 6) := by
  obtain ⟨_, k⟩ := sol_is hf hA hZ hC
  have hne : secS (solGo sec [] X) z ≠ [] := by rw [k]; intro e; rw [e] at h; simp at h
  obtain ⟨s, hs, _, _, e⟩ := sec_mem hne
  exact capS_no (Or.inr ⟨s, hs, by rw [e, k]; exact h⟩)
set_option maxHeartbeats 40000000 in
theorem bform_ne (W : World) (K : Nat) (caps : Array Value) (eg : ∀ args w, (callFunc K args).run Try.prog w = .ok (.enter K args) w) (sec : Int → List Rc) (hs : List Int) (g cap : Nat) (w : World)
    (hf : ∀ z, IsForm (sec z)) (hZ : InZ hs) (hC : Chg sec hs) (hK : ∀ z w', Below W.heap.size W w' → Calls Try.prog K (#[.int .i64 z] ++ caps) w' (ResIs (capR (sec z)) w'))
    (own : w.ownsRow W.heap.size 3 1 (.slice (some ⟨g, 0, none⟩) hs.length cap) hs.length (icells hs)) (hb : Below W.heap.size W w) (hl : hs.length ≤ 100000) (h0 : 0 < hs.length) :
    Calls Try.prog 34 #[.slice (some ⟨g, 0, none⟩) hs.length cap, .func (.func K) #[] caps] w (SolRes (capS (solGo sec [] (sortS hs))) W) := by
  have HSORT := Lib.hid (gsort_holds W.heap.size g cap hs w own (by omega))
  have HF := Lib.hid hf; have HZ := Lib.hid hZ; have HC := Lib.hid hC; have HK := Lib.hid hK
  have hg0 := (own.lt g rfl).1
  have hg1 := (own.lt g rfl).2
  have hcap : hs.length ≤ cap := by
    have := own.2
    rcases this with ⟨e, _⟩ | ⟨g', cap', cur, e, _, _, h4⟩
    · cases e
    · injection e with _ _ e3; rw [e3]; exact h4.1
  have HBW := Lib.hid hb
  clear hf hZ hC hK own hb
  go_enter Try.func34, Try.ntmps34
  go_wp2_with fail
  refine HSORT.out.mono ?_
  rintro e w1 ⟨rfl, S, hp, hsrt, hH, hgr1⟩
  have hSl := hp.length_eq
  have HB1 := Lib.hid (Below.grown HBW.out hgr1 HBW.out.size (fun k hk => by cases hk; exact hg0))
  have HCP := Lib.hid (ycompact_any g cap S w1 hH (Nat.lt_of_lt_of_le hg1 hgr1.size) hsrt (by omega) (by omega))
  obtain ⟨X, hX⟩ : ∃ X, X = Lib.compact S := ⟨_, rfl⟩
  rw [← hX] at HCP
  rw [hSl] at HCP
  have HXA : Hid (Asc X ∧ (∀ z, z ∈ X ↔ z ∈ hs)) := Lib.hid (by
    obtain ⟨k1, k2, _⟩ := compact_is hsrt
    rw [hX]; exact ⟨k1, fun z => by rw [k2]; exact hp.mem_iff⟩)
  have hXl : X.length ≤ hs.length := by rw [hX, ← hSl]; exact (compact_is hsrt).2.2
  have hX0 : 0 < X.length := by
    have hm : hs[0] ∈ X := (HXA.out.2 _).2 (List.getElem_mem h0)
    exact List.length_pos_of_mem hm
  have HXE : Hid (sortS hs = X) := Lib.hid (by
    obtain ⟨s1, s2⟩ := sortS_is hs
    exact asc_eq s1 HXA.out.1 (fun z => by rw [s2, HXA.out.2]))
  have HXZ : Hid (InZ X) := Lib.hid (fun x hx => HZ.out x ((HXA.out.2 x).1 hx))
  have HXC : Hid (Chg sec X) := Lib.hid (HC.out.of (fun z => (HXA.out.2 z).symm))
  have hgw1 : g < w1.heap.size := Nat.lt_of_lt_of_le hg1 hgr1.size
  clear hp hsrt hH hgr1 hX hSl HSORT HC HZ
  go_wp2_with fail
  refine HCP.out.mono ?_
  rintro e w2 ⟨rfl, hxc, hgr2⟩
  have HB2 := Lib.hid (Below.grown HB1.out hgr2 HB1.out.size (fun k hk => by cases hk; exact hg0))
  have hg2 : g < w2.heap.size := Nat.lt_of_lt_of_le hgw1 hgr2.size
  have HXCL := Lib.hid hxc
  clear hgr2 hxc HCP HB1 HBW
  have K0 : Hid (SW (.slice none 0 0) [] w2 w2) := Lib.hid (SW.nil w2)
  have T0 : Hid (svS [] = solGo sec [] (X.take (0 + 1))) := Lib.hid (by
    obtain ⟨a, Y, rfl⟩ : ∃ a Y, X = a :: Y := by
      cases X with
      | nil => simp at hX0
      | cons a Y => exact ⟨a, Y, rfl⟩
    rfl)
  go_wp2_with fail
  go_loopw [6, 7] (fun v i wr => ∃ (k : Nat) (L : List SlV) (v0 : Value), k + 1 ≤ X.length ∧ i = .int .i64 ((k : Int) + 1) ∧ v0 = v ∧ Hid (svS L = solGo sec [] (X.take (k + 1))) ∧ Hid (SW v0 L w2 wr) ∧ L.length ≤ 80 ∧ Hid (∀ t ∈ L, t.s.ar.length ≤ 200)) (fun _ i _ => X.length - (intOf i).toNat)
  case atStart => exact ⟨0, [], _, by omega, rfl, rfl, T0, K0, by simp, Lib.hid (fun t ht => by cases ht)⟩
  case round =>
    clear K0 T0
    obtain ⟨k, L, v, hk, rfl, rfl, HT, HS, hL, HLA⟩ := hrel
    have hbs := HS.out.bel.size
    by_cases hlt : k + 1 < X.length
    · have xc := HXCL.out k (by omega)
      have xd := HXCL.out (k + 1) hlt
      have E00 : Hid (Fx g k (X[k]'(by omega)) X[k + 1] w2 w2) := Lib.hid ⟨xc, xd, hg2, hg2, Lib.hid (Below.refl _ _)⟩
      have E0 : Hid (Fx g k (X[k]'(by omega)) X[k + 1] w2 wr) := Lib.hid (E00.out.of HS.out.bel)
      have HNX := Lib.hid (solGo_next sec X k hlt)
      have HPRE := Lib.hid (solGo_pre sec X (k + 1) hlt)
      have BIG : Hid (200 < (sec (X[k]'(by omega))).length → capS (solGo sec [] X) = ([], 6)) := Lib.hid (fun h => capS_big HF.out HXA.out.1 HXZ.out HXC.out h)
      have HKK := Lib.hid (HK.out (X[k]'(by omega)))
      have r1 : IntKind.i64.wrap (k : Int) = (k : Int) := IntWalk.i64_in _ (by omega)
      have m0 : (0 : Int) ≤ (k : Int) := by omega
      have m1 : (k : Int) < (X.length : Int) := by omega
      have m2 : (k : Int) + 1 < (X.length : Int) := by omega
      have m3 : (0 : Int) ≤ (k : Int) + 1 := by omega
      clear xc xd
      obtain ⟨a, ha⟩ : ∃ a, a = X[k]'(by omega) := ⟨_, rfl⟩
      obtain ⟨b, hb⟩ : ∃ b, b = X[k + 1] := ⟨_, rfl⟩
      rw [← ha, ← hb] at E00 E0 HNX
      rw [← ha] at BIG HKK
      clear ha hb
      have HB := Lib.hid (HB2.out.trans (HS.out.bel.mono HB2.out.size))
      obtain ⟨x0, x1, _, xg, _⟩ := E0.out
      have HKW := Lib.hid (HKK.out wr HB.out)
      go_wp2_with fail
      refine HKW.out.mono ?_
      by_cases h200 : (sec a).length ≤ 200
      · rw [show capR (sec a) = (sec a, 0) from cap_le h200]
        intro e w3 hres
        obtain ⟨A3, c3, rfl, ho3, hb3⟩ := hres.parts
        simp only at ho3
        have HS3 := Lib.hid (HS.out.go hb3)
        have E3 : Hid (Fx g k a b w2 w3) := Lib.hid (E00.out.of HS3.out.bel)
        have HJ : Hid (Calls Try.prog 52 #[v, .agg #[.int .i64 a, .int .i64 b, .slice A3 (sec a).length c3]] w3.drew (JoinIs L ⟨⟨a, b, sec a⟩, A3, c3⟩ w2 w3.drew)) := Lib.hid (by
          have hd : Below w3.heap.size w3 w3.drew := (Below.refl _ _).drew
          exact bjoin_any L v ⟨⟨a, b, sec a⟩, A3, c3⟩ w2 w3.drew (HS3.out.go hd) (own_go (own_base ho3 hbs) hd) hL HLA.out h200)
        have HL2 : Hid (∀ L' : List SlV, svS L' = joinS (svS L) ⟨a, b, sec a⟩ → (∀ t ∈ L', t.s.ar.length ≤ 200) ∧ svS L' = solGo sec [] (X.take (k + 1 + 1))) := Lib.hid (fun L' hj => ⟨fun t ht => by
            have hm : t.s ∈ joinS (svS L) ⟨a, b, sec a⟩ := by rw [← hj]; exact List.mem_map_of_mem ht
            rcases join_mem hm with e | ⟨u, hu, e⟩
            · rw [e]; exact h200
            · obtain ⟨q, hq, rfl⟩ := List.mem_map.1 hu
              rw [← e]; exact HLA.out q hq, by rw [HNX.out, ← HT.out, hj]⟩)
        clear hres ho3 hb3 h200 BIG HKK HKW HS HLA HT HNX E0 x0 x1 xg
        obtain ⟨x0, x1, _, xg, _⟩ := E3.out
        generalize (sec a).length = na at *
        go_wp2_with fail
        go_region_held3 (fun w' => w'.cell? ⟨g, k, none⟩ = some (.int .i64 a) ∧ w'.cell? ⟨g, k + 1, none⟩ = some (.int .i64 b) ∧ g < w2.heap.size ∧ g < w'.heap.size ∧ Hid (Below w2.heap.size w2 w'))
          (first | exact E3.out | exact Fx.drewN E3.out 1 | exact Fx.of E00.out (SW.bel ‹_›) | assumption)
          (first | (go_at_call 52; refine HJ.out.mono ?_; rintro e w' ⟨v', L', rfl, hj, hsw⟩) | fail)
        obtain ⟨hla2, ht2⟩ := HL2.out L' hj
        have HT2 := Lib.hid ht2; have HLA2 := Lib.hid hla2
        obtain ⟨A', c', rfl, _, _, _⟩ := hsw.cells
        have HSW := Lib.hid hsw
        clear hj hsw hla2 ht2 HL2 HJ E3 HS3 E00
        by_cases h80 : 80 < L'.length
        · have s1 : (80 : Int) < (L'.length : Int) := by omega
          have FIN : Hid (SolRes (capS (solGo sec [] (sortS hs))) W (.returned (.tuple #[.slice none 0 0, .int .i64 6])) w') := Lib.hid (by
            have hl2 : L'.length = (svS L').length := (svS_len L').symm
            rw [HXE.out, capS_no (Or.inl (by have := HPRE.out; rw [← HT2.out, ← hl2] at this; omega))]
            exact ⟨none, 0, rfl, SIn.nil _, HB2.out.trans (HSW.out.bel.mono HB2.out.size)⟩)
          clear HPRE HT2 HLA2 h80
          go_wp2_with fail
          go_ret2
          exact FIN.out
        · have s1 : ¬ (80 : Int) < (L'.length : Int) := by omega
          clear HPRE
          go_wp2_with fail
          go_roundw
          case rel => exact ⟨k + 1, L', _, by omega, by go_num, rfl, HT2, HSW, by omega, HLA2⟩
          case measure => simp [intOf]; omega
      · rw [show capR (sec a) = ([], 6) from if_neg h200]
        intro e w3 hres
        obtain ⟨A3, c3, rfl, ho3, hb3⟩ := hres.parts
        have FIN : Hid (SolRes (capS (solGo sec [] (sortS hs))) W (.returned (.tuple #[.slice none 0 0, .int .i64 6])) w3) := Lib.hid (by
          rw [HXE.out, BIG.out (by omega)]
          exact ⟨none, 0, rfl, SIn.nil _, (HB.out.trans (hb3.mono HB.out.size))⟩)
        clear hres ho3 hb3 h200 BIG HKK HKW HS HLA HT HNX E0 E00 x0 x1 xg HPRE
        simp only [List.length_nil]
        go_wp2_with fail
        go_ret2
        exact FIN.out
    · have hkx : k + 1 = X.length := by omega
      obtain ⟨A', c', hv, _, _, _⟩ := HS.out.cells
      have FIN : Hid (SolRes (capS (solGo sec [] (sortS hs))) W (.returned (.tuple #[v, .int .i64 0])) wr) := Lib.hid (by
        obtain ⟨A2, c2, e2, h2⟩ := HS.out.sin (by omega) (fun t ht => by have := HLA.out t ht; omega)
        have e3 : solGo sec [] X = svS L := by
          have := HT.out
          rw [hkx, List.take_length] at this; exact this.symm
        have e4 : capS (svS L) = (svS L, 0) := capS_yes (by rw [svS_len]; exact hL) (fun s hs => by
          obtain ⟨q, hq, rfl⟩ := List.mem_map.1 hs
          exact HLA.out q hq)
        rw [HXE.out, e3, e4]
        exact ⟨A2, c2, by rw [e2], h2, HB2.out.trans (HS.out.bel.mono HB2.out.size)⟩)
      subst hv
      have m2 : ¬ ((k : Int) + 1 < (X.length : Int)) := by omega
      clear HS HT HLA hkx hlt
      go_wp2_with fail
      go_ret2
      exact FIN.out
set_option maxHeartbeats 4000000 in
theorem bform_nil (W : World) (K : Nat) (caps : Array Value) (sec : Int → List Rc) (A : Option Addr) (cap : Nat) (w : World) (hb : Below W.heap.size W w) :
    Calls Try.prog 34 #[.slice A 0 cap, .func (.func K) #[] caps] w (SolRes (capS (solGo sec [] (sortS []))) W) := by
  have HS := Lib.hid (gsort_none A cap w)
  have HC := Lib.hid (fun w' => ycompact_none A cap w')
  have HB := Lib.hid hb
  have FIN : Hid (SolRes (capS (solGo sec [] (sortS []))) W (.returned (.tuple #[.slice none 0 0, .int .i64 0])) w) := Lib.hid ⟨none, 0, rfl, SIn.nil _, hb⟩
  clear hb
  go_enter Try.func34, Try.ntmps34
  go_wp2_with fail
  refine HS.out.mono ?_
  rintro e w1 ⟨rfl, rfl⟩
  go_wp2_with fail
  refine (HC.out _).mono ?_
  rintro e w2 ⟨rfl, rfl⟩
  go_wp2_with fail
  go_loopw [6, 7] (fun v i wr => v = .slice none 0 0 ∧ i = .int .i64 1 ∧ wr = w2) (fun _ i _ => 0)
  case atStart => exact ⟨rfl, rfl, rfl⟩
  case round =>
    obtain ⟨rfl, rfl, rfl⟩ := hrel
    go_wp2_with fail
    go_ret2
    exact FIN.out
theorem bform_any (W : World) (K : Nat) (caps : Array Value) (eg : ∀ args w, (callFunc K args).run Try.prog w = .ok (.enter K args) w) (sec : Int → List Rc) (hs : List Int) (vh : Value) (w : World)
    (hf : ∀ z, IsForm (sec z)) (hZ : InZ hs) (hC : Chg sec hs) (hK : ∀ z w', Below W.heap.size W w' → Calls Try.prog K (#[.int .i64 z] ++ caps) w' (ResIs (capR (sec z)) w'))
    (own : w.ownsRow W.heap.size 3 1 vh hs.length (icells hs)) (hb : Below W.heap.size W w) (hl : hs.length ≤ 100000) :
    Calls Try.prog 34 #[vh, .func (.func K) #[] caps] w (SolRes (capS (solGo sec [] (sortS hs))) W) := by
  obtain ⟨A, cap, rfl, hA⟩ := own_parts own
  rcases Nat.eq_zero_or_pos hs.length with h0 | h0
  · obtain rfl := List.length_eq_zero_iff.1 h0
    exact bform_nil W K caps sec A cap w hb
  · obtain ⟨g, rfl, _⟩ := hA h0
    exact bform_ne W K caps eg sec hs g cap w hf hZ hC hK own hb hl h0
theorem SolRes.base {x : List Sl × Int} {w0 w w' : World} {e : Ending} (h : SolRes x w e w') (hb : Below w0.heap.size w0 w) : SolRes x w0 e w' := by
  obtain ⟨A, c, rfl, h1, h2⟩ := h
  exact ⟨A, c, rfl, h1, hb.trans (h2.mono hb.size)⟩
end Go.Proofs.Ytdnoadngfkiabaa
namespace Go.Proofs.Ytdnoadngfkiabaa
open Go.RowKit Go.ChangeShapes Go.WideShapes Go.ChangeAt Go.Joins Go.Deep

theorem cellsBox : Try.prog.cellsOf 45 = 6 := by kernel_rfl
/-- a list of boxes that was handed in. -/
structure BIn (w : World) (A : Option Addr) (cap : Nat) (l : List Bx) : Prop where
  row : BxRow w A l
  len : l.length ≤ 9223372036854775807
  room : l.length ≤ cap
  room2 : cap ≤ 9223372036854775807
  nil : A = none → cap = 0
section
variable {H : Type} {enc : TypeId × Value → H} {w : World} {held : Bool}
theorem each_box {a : Addr} {n : Nat} {cs : List Value} {y : DataW H × List MemPlace} (hc : w.cells? 0 a 6 = some cs) (ht : DataW.trod enc Try.prog w 0 (fun _ => true) held n 45 cs = some y) :
    ∃ x : Bx, ∀ j u, (bxc x)[j]? = some u → w.cell? (a.add j) = some u := by
  obtain ⟨ys, n', _, _, hlen, hyl, hf⟩ := DataW.trod_struct Try.underlying45 ht
  obtain ⟨_, hcl, hat⟩ := World.cells?_some hc
  match cs, hcl, hat with
  | [c0, c1, c2, c3, c4, c5], _, hat =>
    have e3 : Try.prog.cellsOf 3 = 1 := by kernel_rfl
    match ys, hyl, hf with
    | [y0, y1, y2], _, hf =>
      have h0 : DataW.trod enc Try.prog w 0 (fun _ => true) held n' 43 [c0, c1, c2, c3] = some y0 := by have := hf 0 _ rfl; simpa [e3, cellsRect] using this
      have h1 : DataW.trod enc Try.prog w 0 (fun _ => true) held n' 3 [c4] = some y1 := by have := hf 1 _ rfl; simpa [e3, cellsRect] using this
      have h2 : DataW.trod enc Try.prog w 0 (fun _ => true) held n' 3 [c5] = some y2 := by have := hf 2 _ rfl; simpa [e3, cellsRect] using this
      obtain ⟨zs, n2, _, _, _, hzl, hg⟩ := DataW.trod_struct Try.underlying43 h0
      match zs, hzl, hg with
      | [z0, z1, z2, z3], _, hg =>
        have g0 : DataW.trod enc Try.prog w 0 (fun _ => true) held n2 3 [c0] = some z0 := by have := hg 0 _ rfl; simpa [e3] using this
        have g1 : DataW.trod enc Try.prog w 0 (fun _ => true) held n2 3 [c1] = some z1 := by have := hg 1 _ rfl; simpa [e3] using this
        have g2 : DataW.trod enc Try.prog w 0 (fun _ => true) held n2 3 [c2] = some z2 := by have := hg 2 _ rfl; simpa [e3] using this
        have g3 : DataW.trod enc Try.prog w 0 (fun _ => true) held n2 3 [c3] = some z3 := by have := hg 3 _ rfl; simpa [e3] using this
        obtain ⟨A, hA, _, _⟩ := DataW.trod_int Try.underlying3 g0
        obtain ⟨B, hB, _, _⟩ := DataW.trod_int Try.underlying3 g1
        obtain ⟨C, hC, _, _⟩ := DataW.trod_int Try.underlying3 g2
        obtain ⟨D, hD, _, _⟩ := DataW.trod_int Try.underlying3 g3
        obtain ⟨E, hE, _, _⟩ := DataW.trod_int Try.underlying3 h1
        obtain ⟨F, hF, _, _⟩ := DataW.trod_int Try.underlying3 h2
        obtain rfl : c0 = .int .i64 A := by simpa using hA
        obtain rfl : c1 = .int .i64 B := by simpa using hB
        obtain rfl : c2 = .int .i64 C := by simpa using hC
        obtain rfl : c3 = .int .i64 D := by simpa using hD
        obtain rfl : c4 = .int .i64 E := by simpa using hE
        obtain rfl : c5 = .int .i64 F := by simpa using hF
        refine ⟨⟨⟨A, B, C, D⟩, E, F⟩, fun j u hu => ?_⟩
        have hj : j < 6 := by have := (List.getElem?_eq_some_iff.1 hu).1; simpa [bxc] using this
        rw [hat j hj]; exact hu
theorem open_boxes {v : Value} {d : DataW H} {p : List MemPlace} {r : Reach} {b0 : Nat} (hv : Value.okWide Try.prog w r b0 35 v) (h : DataW.Trod enc Try.prog w 0 (fun _ => true) held 35 v d p) :
    ∃ (A : Option Addr) (c : Nat) (l : List Bx), v = .slice A l.length c ∧ BIn w A c l := by
  obtain ⟨a0, len0, cap0, rfl⟩ := okWide_slice Try.underlying35 hv
  obtain ⟨fuel, hf⟩ := h
  rcases open_slice Try.underlying35 hf with ⟨hcs, _⟩ | ⟨a, len, cap, m, n, D, Pl, hcs, _, hl, hm, hmm, _, hi⟩
  · simp [Value.cells] at hcs
    obtain ⟨rfl, rfl, rfl⟩ := hcs
    exact ⟨none, 0, [], rfl, BxRow.nil _ _, by simp, by simp, by omega, fun _ => rfl⟩
  · simp [Value.cells] at hcs
    obtain ⟨rfl, rfl, rfl⟩ := hcs
    simp at hmm
    subst hmm
    rw [cellsBox] at hi
    obtain ⟨l, hll, hp⟩ := list_of (P := fun i (x : Bx) => ∀ j u, (bxc x)[j]? = some u → w.cell? ((a.add (i * 6)).add j) = some u) len0 (fun i hlt => by
        obtain ⟨cs', hc, ht⟩ := hi i (by omega)
        exact each_box hc ht)
    refine ⟨some a, m, l, by rw [hll], ⟨fun hn => ?_, by unfold maxLen at hm; omega, by omega, by unfold maxLen at hm; omega, fun h => by cases h⟩⟩
    obtain ⟨b, off, spot⟩ := a
    have hc0 := hp 0 hn
    have h0 := hc0 0 _ rfl
    have hspot : spot = none := by simpa [Addr.add] using World.cell?_spot h0
    subst hspot
    refine ⟨b, off, rfl, ?_, fun j hj => ?_⟩
    · have := World.block_lt_of_cell? w _ h0
      rw [add_at, add_at] at this
      exact this
    · have hc := hp j hj
      have hcc : ∀ q u, (bxc l[j])[q]? = some u → w.cell? ⟨b, off + j * 6 + q, none⟩ = some u := fun q u hu => by
        have := hc q u hu
        rw [add_at, add_at] at this
        exact this
      exact ⟨hcc 0 _ rfl, hcc 1 _ rfl, hcc 2 _ rfl, hcc 3 _ rfl, hcc 4 _ rfl, hcc 5 _ rfl⟩
end
end Go.Proofs.Ytdnoadngfkiabaa
