/-
  Contracts of the program's layer 9, 6: form.
  Mathematics: the boxes of a solid.
  Rows of boxes in memory, as a function that makes one hands it back.
-/
import Derived.Test.YtdnoadngfkiabaaGreatS920
import Derived.Test.YtdnoadngfkiabaaGreatS922
import Derived.Test.YtdnoadngfkiabaaGreatS923
import Derived.Test.YtdnoadngfkiabaaGreatS913
import Derived.Test.YtdnoadngfkiabaaGreatS915
set_option linter.unusedVariables false
set_option maxRecDepth 100000
namespace Go.Proofs.YtdnoadngfkiabaaGreat
open Go.RowKit Go.Lib

theorem take_two (X : List Int) (k : Nat) (h : k + 1 < X.length) : X.take (k + 1 + 1) = X.take k ++ [X[k]'(by omega), X[k + 1]] ∧ X.take (k + 1) = X.take k ++ [X[k]'(by omega)] := by
  have e1 : X.take (k + 1) = X.take k ++ [X[k]'(by omega)] := List.take_succ_eq_append_getElem (by omega)
  have e2 : X.take (k + 1 + 1) = X.take (k + 1) ++ [X[k + 1]] := List.take_succ_eq_append_getElem h
  exact ⟨by rw [e2, e1, List.append_assoc]; rfl, e1⟩
theorem solGo_next (sec : Int → List Rc) (X : List Int) (k : Nat) (h : k + 1 < X.length) : solGo sec [] (X.take (k + 1 + 1)) = joinS (solGo sec [] (X.take (k + 1))) ⟨X[k]'(by omega), X[k + 1], sec (X[k]'(by omega))⟩ := by
  obtain ⟨e1, e2⟩ := take_two X k h
  rw [e1, e2, solGo_step]
theorem solGo_pre (sec : Int → List Rc) (X : List Int) (k : Nat) (h : k < X.length) : (solGo sec [] (X.take (k + 1))).length ≤ (solGo sec [] X).length := by
  have e : X = X.take k ++ X[k] :: X.drop (k + 1) := by rw [← List.drop_eq_getElem_cons h, List.take_append_drop]
  have e2 : solGo sec [] X = solGo sec (solGo sec [] (X.take k ++ [X[k]])) (X[k] :: X.drop (k + 1)) := by
    conv => lhs; rw [e]
    exact solGo_app sec _ _ _ _
  rw [e2, List.take_succ_eq_append_getElem h]
  exact (solGo_len sec _ _).1
/-- the two heights that a round reads. -/
def Fx (g k : Nat) (x y : Int) (w0 w : World) : Prop := w.cell? ⟨g, k, none⟩ = some (.int .i64 x) ∧ w.cell? ⟨g, k + 1, none⟩ = some (.int .i64 y) ∧ g < w0.heap.size ∧ g < w.heap.size ∧ Hid (Below w0.heap.size w0 w)
theorem Fx.go {g k : Nat} {x y : Int} {w0 w w' : World} (h : Fx g k x y w0 w) (hb : Below w0.heap.size w w') : Fx g k x y w0 w' := by
  obtain ⟨h0, h1, h2, h3, h4⟩ := h
  exact ⟨(hb.cell (p := ⟨g, k, none⟩) h2).trans h0, (hb.cell (p := ⟨g, k + 1, none⟩) h2).trans h1, h2, Nat.lt_of_lt_of_le h3 hb.size, Lib.hid (h4.out.trans hb)⟩
theorem Fx.drewN {g k : Nat} {x y : Int} {w0 w : World} (h : Fx g k x y w0 w) (n : Nat) : Fx g k x y w0 (w.drewN n) := h.go (below_drewN (Below.refl _ _) n)
theorem Fx.of {g k : Nat} {x y : Int} {w0 w' : World} (h : Fx g k x y w0 w0) (hb : Below w0.heap.size w0 w') : Fx g k x y w0 w' := h.go hb
theorem capS_big {sec : Int → List Rc} {X : List Int} (hf : ∀ z, IsForm (sec z)) (hA : Asc X) (hZ : InZ X) (hC : Chg sec X) {z : Int} (h : 200 < (sec z).length) : capS (solGo sec [] X) = ([], 6) := by
  obtain ⟨_, k⟩ := sol_is hf hA hZ hC
  have hne : secS (solGo sec [] X) z ≠ [] := by rw [k]; intro e; rw [e] at h; simp at h
  obtain ⟨s, hs, _, _, e⟩ := sec_mem hne
  exact capS_no (Or.inr ⟨s, hs, by rw [e, k]; exact h⟩)
set_option maxHeartbeats 40000000 in
theorem bform_ne (W : World) (K : Nat) (caps : Array Value) (eg : ∀ args w, (callFunc K args).run Tryz.prog w = .ok (.enter K args) w) (sec : Int → List Rc) (hs : List Int) (g cap : Nat) (w : World)
    (hf : ∀ z, IsForm (sec z)) (hZ : InZ hs) (hC : Chg sec hs) (hK : ∀ z w', Below W.heap.size W w' → Calls Tryz.prog K (#[.int .i64 z] ++ caps) w' (ResIs (capR (sec z)) w'))
    (own : w.ownsRow W.heap.size 3 1 (.slice (some ⟨g, 0, none⟩) hs.length cap) hs.length (icells hs)) (hb : Below W.heap.size W w) (hl : hs.length ≤ 100000) (h0 : 0 < hs.length) :
    Calls Tryz.prog 35 #[.slice (some ⟨g, 0, none⟩) hs.length cap, .func (.func K) #[] caps] w (SolRes (capS (solGo sec [] (sortS hs))) W) := by
  have HSORT := Lib.hid (gsort_holds W.heap.size g cap hs w own (by omega))
  have HF := Lib.hid hf; have HZ := Lib.hid hZ; have HC := Lib.hid hC; have HK := Lib.hid hK
  have hg0 := (own.lt g rfl).1
  have hg1 := (own.lt g rfl).2
  have hcap : hs.length ≤ cap := by
    have := own.2
    rcases this with ⟨e, _⟩ | ⟨g', cap', cur, e, _, _, h4⟩
    · cases e
    · injection e with _ _ e3; rw [e3]; exact h4.1
  have HBW := Lib.hid hb
  clear hf hZ hC hK own hb
  go_enter Tryz.func35, Tryz.ntmps35
  go_wp2_with fail
  refine HSORT.out.mono ?_
  rintro e w1 ⟨rfl, S, hp, hsrt, hH, hgr1⟩
  have hSl := hp.length_eq
  have HB1 := Lib.hid (Below.grown HBW.out hgr1 HBW.out.size (fun k hk => by cases hk; exact hg0))
  have HCP := Lib.hid (ycompact_any g cap S w1 hH (Nat.lt_of_lt_of_le hg1 hgr1.size) hsrt (by omega) (by omega))
  obtain ⟨X, hX⟩ : ∃ X, X = Lib.compact S := ⟨_, rfl⟩
  rw [← hX] at HCP
  rw [hSl] at HCP
  have HXA : Hid (Asc X ∧ (∀ z, z ∈ X ↔ z ∈ hs)) := Lib.hid (by
    obtain ⟨k1, k2, _⟩ := compact_is hsrt
    rw [hX]; exact ⟨k1, fun z => by rw [k2]; exact hp.mem_iff⟩)
  have hXl : X.length ≤ hs.length := by rw [hX, ← hSl]; exact (compact_is hsrt).2.2
  have hX0 : 0 < X.length := by
    have hm : hs[0] ∈ X := (HXA.out.2 _).2 (List.getElem_mem h0)
    exact List.length_pos_of_mem hm
  have HXE : Hid (sortS hs = X) := Lib.hid (by
    obtain ⟨s1, s2⟩ := sortS_is hs
    exact asc_eq s1 HXA.out.1 (fun z => by rw [s2, HXA.out.2]))
  have HXZ : Hid (InZ X) := Lib.hid (fun x hx => HZ.out x ((HXA.out.2 x).1 hx))
  have HXC : Hid (Chg sec X) := Lib.hid (HC.out.of (fun z => (HXA.out.2 z).symm))
  have hgw1 : g < w1.heap.size := Nat.lt_of_lt_of_le hg1 hgr1.size
  clear hp hsrt hH hgr1 hX hSl HSORT HC HZ
  go_wp2_with fail
  refine HCP.out.mono ?_
  rintro e w2 ⟨rfl, hxc, hgr2⟩
  have HB2 := Lib.hid (Below.grown HB1.out hgr2 HB1.out.size (fun k hk => by cases hk; exact hg0))
  have hg2 : g < w2.heap.size := Nat.lt_of_lt_of_le hgw1 hgr2.size
  have HXCL := Lib.hid hxc
  clear hgr2 hxc HCP HB1 HBW
  have K0 : Hid (SW (.slice none 0 0) [] w2 w2) := Lib.hid (SW.nil w2)
  have T0 : Hid (svS [] = solGo sec [] (X.take (0 + 1))) := Lib.hid (by
    obtain ⟨a, Y, rfl⟩ : ∃ a Y, X = a :: Y := by
      cases X with
      | nil => simp at hX0
      | cons a Y => exact ⟨a, Y, rfl⟩
    rfl)
  go_wp2_with fail
  go_loopw [6, 7] (fun v i wr => ∃ (k : Nat) (L : List SlV) (v0 : Value), k + 1 ≤ X.length ∧ i = .int .i64 ((k : Int) + 1) ∧ v0 = v ∧ Hid (svS L = solGo sec [] (X.take (k + 1))) ∧ Hid (SW v0 L w2 wr) ∧ L.length ≤ 80 ∧ Hid (∀ t ∈ L, t.s.ar.length ≤ 200)) (fun _ i _ => X.length - (intOf i).toNat)
  case atStart => exact ⟨0, [], _, by omega, rfl, rfl, T0, K0, by simp, Lib.hid (fun t ht => by cases ht)⟩
  case round =>
    clear K0 T0
    obtain ⟨k, L, v, hk, rfl, rfl, HT, HS, hL, HLA⟩ := hrel
    have hbs := HS.out.bel.size
    by_cases hlt : k + 1 < X.length
    · have xc := HXCL.out k (by omega)
      have xd := HXCL.out (k + 1) hlt
      have E00 : Hid (Fx g k (X[k]'(by omega)) X[k + 1] w2 w2) := Lib.hid ⟨xc, xd, hg2, hg2, Lib.hid (Below.refl _ _)⟩
      have E0 : Hid (Fx g k (X[k]'(by omega)) X[k + 1] w2 wr) := Lib.hid (E00.out.of HS.out.bel)
      have HNX := Lib.hid (solGo_next sec X k hlt)
      have HPRE := Lib.hid (solGo_pre sec X (k + 1) hlt)
      have BIG : Hid (200 < (sec (X[k]'(by omega))).length → capS (solGo sec [] X) = ([], 6)) := Lib.hid (fun h => capS_big HF.out HXA.out.1 HXZ.out HXC.out h)
      have HKK := Lib.hid (HK.out (X[k]'(by omega)))
      have r1 : IntKind.i64.wrap (k : Int) = (k : Int) := IntWalk.i64_in _ (by omega)
      have m0 : (0 : Int) ≤ (k : Int) := by omega
      have m1 : (k : Int) < (X.length : Int) := by omega
      have m2 : (k : Int) + 1 < (X.length : Int) := by omega
      have m3 : (0 : Int) ≤ (k : Int) + 1 := by omega
      clear xc xd
      obtain ⟨a, ha⟩ : ∃ a, a = X[k]'(by omega) := ⟨_, rfl⟩
      obtain ⟨b, hb⟩ : ∃ b, b = X[k + 1] := ⟨_, rfl⟩
      rw [← ha, ← hb] at E00 E0 HNX
      rw [← ha] at BIG HKK
      clear ha hb
      have HB := Lib.hid (HB2.out.trans (HS.out.bel.mono HB2.out.size))
      obtain ⟨x0, x1, _, xg, _⟩ := E0.out
      have HKW := Lib.hid (HKK.out wr HB.out)
      go_wp2_with fail
      refine HKW.out.mono ?_
      by_cases h200 : (sec a).length ≤ 200
      · rw [show capR (sec a) = (sec a, 0) from cap_le h200]
        intro e w3 hres
        obtain ⟨A3, c3, rfl, ho3, hb3⟩ := hres.parts
        simp only at ho3
        have HS3 := Lib.hid (HS.out.go hb3)
        have E3 : Hid (Fx g k a b w2 w3) := Lib.hid (E00.out.of HS3.out.bel)
        have HJ : Hid (Calls Tryz.prog 66 #[v, .agg #[.int .i64 a, .int .i64 b, .slice A3 (sec a).length c3]] w3.drew (JoinIs L ⟨⟨a, b, sec a⟩, A3, c3⟩ w2 w3.drew)) := Lib.hid (by
          have hd : Below w3.heap.size w3 w3.drew := (Below.refl _ _).drew
          exact bjoin_any L v ⟨⟨a, b, sec a⟩, A3, c3⟩ w2 w3.drew (HS3.out.go hd) (own_go (own_base ho3 hbs) hd) hL HLA.out h200)
        have HL2 : Hid (∀ L' : List SlV, svS L' = joinS (svS L) ⟨a, b, sec a⟩ → (∀ t ∈ L', t.s.ar.length ≤ 200) ∧ svS L' = solGo sec [] (X.take (k + 1 + 1))) := Lib.hid (fun L' hj => ⟨fun t ht => by
            have hm : t.s ∈ joinS (svS L) ⟨a, b, sec a⟩ := by rw [← hj]; exact List.mem_map_of_mem ht
            rcases join_mem hm with e | ⟨u, hu, e⟩
            · rw [e]; exact h200
            · obtain ⟨q, hq, rfl⟩ := List.mem_map.1 hu
              rw [← e]; exact HLA.out q hq, by rw [HNX.out, ← HT.out, hj]⟩)
        clear hres ho3 hb3 h200 BIG HKK HKW HS HLA HT HNX E0 x0 x1 xg
        obtain ⟨x0, x1, _, xg, _⟩ := E3.out
        generalize (sec a).length = na at *
        go_wp2_with fail
        go_region_held3 (fun w' => w'.cell? ⟨g, k, none⟩ = some (.int .i64 a) ∧ w'.cell? ⟨g, k + 1, none⟩ = some (.int .i64 b) ∧ g < w2.heap.size ∧ g < w'.heap.size ∧ Hid (Below w2.heap.size w2 w'))
          (first | exact E3.out | exact Fx.drewN E3.out 1 | exact Fx.of E00.out (SW.bel ‹_›) | assumption)
          (first | (go_at_call 66; refine HJ.out.mono ?_; rintro e w' ⟨v', L', rfl, hj, hsw⟩) | fail)
        obtain ⟨hla2, ht2⟩ := HL2.out L' hj
        have HT2 := Lib.hid ht2; have HLA2 := Lib.hid hla2
        obtain ⟨A', c', rfl, _, _, _⟩ := hsw.cells
        have HSW := Lib.hid hsw
        clear hj hsw hla2 ht2 HL2 HJ E3 HS3 E00
        by_cases h80 : 80 < L'.length
        · have s1 : (80 : Int) < (L'.length : Int) := by omega
          have FIN : Hid (SolRes (capS (solGo sec [] (sortS hs))) W (.returned (.tuple #[.slice none 0 0, .int .i64 6])) w') := Lib.hid (by
            have hl2 : L'.length = (svS L').length := (svS_len L').symm
            rw [HXE.out, capS_no (Or.inl (by have := HPRE.out; rw [← HT2.out, ← hl2] at this; omega))]
            exact ⟨none, 0, rfl, SIn.nil _, HB2.out.trans (HSW.out.bel.mono HB2.out.size)⟩)
          clear HPRE HT2 HLA2 h80
          go_wp2_with fail
          go_ret2
          exact FIN.out
        · have s1 : ¬ (80 : Int) < (L'.length : Int) := by omega
          clear HPRE
          go_wp2_with fail
          go_roundw
          case rel => exact ⟨k + 1, L', _, by omega, by go_num, rfl, HT2, HSW, by omega, HLA2⟩
          case measure => simp [intOf]; omega
      · rw [show capR (sec a) = ([], 6) from if_neg h200]
        intro e w3 hres
        obtain ⟨A3, c3, rfl, ho3, hb3⟩ := hres.parts
        have FIN : Hid (SolRes (capS (solGo sec [] (sortS hs))) W (.returned (.tuple #[.slice none 0 0, .int .i64 6])) w3) := Lib.hid (by
          rw [HXE.out, BIG.out (by omega)]
          exact ⟨none, 0, rfl, SIn.nil _, (HB.out.trans (hb3.mono HB.out.size))⟩)
        clear hres ho3 hb3 h200 BIG HKK HKW HS HLA HT HNX E0 E00 x0 x1 xg HPRE
        simp only [List.length_nil]
        go_wp2_with fail
        go_ret2
        exact FIN.out
    · have hkx : k + 1 = X.length := by omega
      obtain ⟨A', c', hv, _, _, _⟩ := HS.out.cells
      have FIN : Hid (SolRes (capS (solGo sec [] (sortS hs))) W (.returned (.tuple #[v, .int .i64 0])) wr) := Lib.hid (by
        obtain ⟨A2, c2, e2, h2⟩ := HS.out.sin (by omega) (fun t ht => by have := HLA.out t ht; omega)
        have e3 : solGo sec [] X = svS L := by
          have := HT.out
          rw [hkx, List.take_length] at this; exact this.symm
        have e4 : capS (svS L) = (svS L, 0) := capS_yes (by rw [svS_len]; exact hL) (fun s hs => by
          obtain ⟨q, hq, rfl⟩ := List.mem_map.1 hs
          exact HLA.out q hq)
        rw [HXE.out, e3, e4]
        exact ⟨A2, c2, by rw [e2], h2, HB2.out.trans (HS.out.bel.mono HB2.out.size)⟩)
      subst hv
      have m2 : ¬ ((k : Int) + 1 < (X.length : Int)) := by omega
      clear HS HT HLA hkx hlt
      go_wp2_with fail
      go_ret2
      exact FIN.out
set_option maxHeartbeats 4000000 in
theorem bform_nil (W : World) (K : Nat) (caps : Array Value) (sec : Int → List Rc) (A : Option Addr) (cap : Nat) (w : World) (hb : Below W.heap.size W w) :
    Calls Tryz.prog 35 #[.slice A 0 cap, .func (.func K) #[] caps] w (SolRes (capS (solGo sec [] (sortS []))) W) := by
  have HS := Lib.hid (gsort_none A cap w)
  have HC := Lib.hid (fun w' => ycompact_none A cap w')
  have HB := Lib.hid hb
  have FIN : Hid (SolRes (capS (solGo sec [] (sortS []))) W (.returned (.tuple #[.slice none 0 0, .int .i64 0])) w) := Lib.hid ⟨none, 0, rfl, SIn.nil _, hb⟩
  clear hb
  go_enter Tryz.func35, Tryz.ntmps35
  go_wp2_with fail
  refine HS.out.mono ?_
  rintro e w1 ⟨rfl, rfl⟩
  go_wp2_with fail
  refine (HC.out _).mono ?_
  rintro e w2 ⟨rfl, rfl⟩
  go_wp2_with fail
  go_loopw [6, 7] (fun v i wr => v = .slice none 0 0 ∧ i = .int .i64 1 ∧ wr = w2) (fun _ i _ => 0)
  case atStart => exact ⟨rfl, rfl, rfl⟩
  case round =>
    obtain ⟨rfl, rfl, rfl⟩ := hrel
    go_wp2_with fail
    go_ret2
    exact FIN.out
theorem bform_any (W : World) (K : Nat) (caps : Array Value) (eg : ∀ args w, (callFunc K args).run Tryz.prog w = .ok (.enter K args) w) (sec : Int → List Rc) (hs : List Int) (vh : Value) (w : World)
    (hf : ∀ z, IsForm (sec z)) (hZ : InZ hs) (hC : Chg sec hs) (hK : ∀ z w', Below W.heap.size W w' → Calls Tryz.prog K (#[.int .i64 z] ++ caps) w' (ResIs (capR (sec z)) w'))
    (own : w.ownsRow W.heap.size 3 1 vh hs.length (icells hs)) (hb : Below W.heap.size W w) (hl : hs.length ≤ 100000) :
    Calls Tryz.prog 35 #[vh, .func (.func K) #[] caps] w (SolRes (capS (solGo sec [] (sortS hs))) W) := by
  obtain ⟨A, cap, rfl, hA⟩ := own_parts own
  rcases Nat.eq_zero_or_pos hs.length with h0 | h0
  · obtain rfl := List.length_eq_zero_iff.1 h0
    exact bform_nil W K caps sec A cap w hb
  · obtain ⟨g, rfl, _⟩ := hA h0
    exact bform_ne W K caps eg sec hs g cap w hf hZ hC hK own hb hl h0
theorem SolRes.base {x : List Sl × Int} {w0 w w' : World} {e : Ending} (h : SolRes x w e w') (hb : Below w0.heap.size w0 w) : SolRes x w0 e w' := by
  obtain ⟨A, c, rfl, h1, h2⟩ := h
  exact ⟨A, c, rfl, h1, hb.trans (h2.mono hb.size)⟩
end Go.Proofs.YtdnoadngfkiabaaGreat
namespace Go.Proofs.YtdnoadngfkiabaaGreat

def boxL (s : Sl) : List Bx := s.ar.map fun r => ⟨r, s.z0, s.z1⟩
def boxesS (S : List Sl) : List Bx := S.flatMap boxL
theorem boxesS_next (S : List Sl) (k : Nat) (h : k < S.length) : boxesS (S.take (k + 1)) = boxesS (S.take k) ++ boxL S[k] := by
  unfold boxesS; rw [List.take_succ_eq_append_getElem h, List.flatMap_append]; simp
theorem boxesS_len {S : List Sl} (h : ∀ s ∈ S, s.ar.length ≤ 200) : (boxesS S).length ≤ S.length * 200 := by
  induction S with
  | nil => simp [boxesS]
  | cons s S ih =>
    have h1 := ih (fun u hu => h u (List.mem_cons_of_mem _ hu))
    have h2 := h s List.mem_cons_self
    rw [show boxesS (s :: S) = boxL s ++ boxesS S from rfl, List.length_append, List.length_cons]
    simp only [boxL, List.length_map]; omega
end Go.Proofs.YtdnoadngfkiabaaGreat
namespace Go.Proofs.YtdnoadngfkiabaaGreat
open Go.RowKit

theorem infoBox : (Tryz.prog.info? 35).map (fun i => (i.zero, i.size, i.bytes)) = some (some (.agg #[.int .i64 0, .int .i64 0, .int .i64 0, .int .i64 0, .int .i64 0, .int .i64 0]), 6, 48) := by kernel_rfl
def bxc (b : Bx) : List Value := [.int .i64 b.r.X0, .int .i64 b.r.Y0, .int .i64 b.r.X1, .int .i64 b.r.Y1, .int .i64 b.z0, .int .i64 b.z1]
def bxcells (l : List Bx) : List Value := l.flatMap bxc
theorem bxcells_append (l m : List Bx) : bxcells (l ++ m) = bxcells l ++ bxcells m := by simp [bxcells]
theorem bxcells_at : ∀ (l : List Bx) (j : Nat) (h : j < l.length), (bxcells l)[j * 6]? = some (.int .i64 l[j].r.X0) ∧ (bxcells l)[j * 6 + 1]? = some (.int .i64 l[j].r.Y0) ∧ (bxcells l)[j * 6 + 2]? = some (.int .i64 l[j].r.X1) ∧ (bxcells l)[j * 6 + 3]? = some (.int .i64 l[j].r.Y1) ∧ (bxcells l)[j * 6 + 4]? = some (.int .i64 l[j].z0) ∧ (bxcells l)[j * 6 + 5]? = some (.int .i64 l[j].z1) := by
  intro l
  induction l with
  | nil => intro j h; exact absurd h (by simp)
  | cons b l ih =>
    intro j h
    have e : bxcells (b :: l) = .int .i64 b.r.X0 :: .int .i64 b.r.Y0 :: .int .i64 b.r.X1 :: .int .i64 b.r.Y1 :: .int .i64 b.z0 :: .int .i64 b.z1 :: bxcells l := rfl
    rw [e]
    cases j with
    | zero => exact ⟨rfl, rfl, rfl, rfl, rfl, rfl⟩
    | succ j =>
      obtain ⟨h0, h1, h2, h3, h4, h5⟩ := ih j (by simp at h; omega)
      rw [show (j + 1) * 6 = j * 6 + 1 + 1 + 1 + 1 + 1 + 1 by omega]
      simp only [List.getElem?_cons_succ, List.getElem_cons_succ]
      exact ⟨h0, h1, h2, h3, h4, h5⟩
theorem own_boxes {w : World} {B : Nat} {v : Value} {l : List Bx} (h : w.ownsRow B 35 6 v l.length (bxcells l)) : ∃ A cap, v = .slice A l.length cap ∧ BxRow w A l ∧ l.length ≤ cap ∧ cap ≤ 9223372036854775807 := by
  have hh := h
  have hlt := h.lt
  obtain ⟨h1, h2⟩ := h
  rcases h2 with ⟨rfl, h3⟩ | ⟨g, cap, cur, rfl, hB, hg, h4⟩
  · exact ⟨none, 0, by rw [h3], fun h => by omega, by omega, by omega⟩
  · refine ⟨_, cap, rfl, fun h0 => ⟨g, 0, rfl, (hlt g rfl).2, fun j hj => ?_⟩, h4.1, by have := h4.2.1; unfold maxLen at this; omega⟩
    have c := fun i (hi : i < l.length * 6) => World.ownsRow.cellAt hh i hi
    obtain ⟨e0, e1, e2, e3, e4, e5⟩ := bxcells_at l j hj
    rw [Nat.zero_add]
    exact ⟨(c _ (by omega)).trans e0, (c _ (by omega)).trans e1, (c _ (by omega)).trans e2, (c _ (by omega)).trans e3, (c _ (by omega)).trans e4, (c _ (by omega)).trans e5⟩
theorem own_block_type {w : World} {B e size n : Nat} {v : Value} {xs : List Value} (h : w.ownsRow B e size v n xs) {g : Nat} (hg : v.ownBlock = some g) : ∃ cs fr, w.heap[g]? = some (.cells cs e fr) := by
  obtain ⟨_, h⟩ := h
  rcases h with ⟨rfl, _⟩ | ⟨g1, cap, cur, rfl, _, hc, _⟩
  · simp [Value.ownBlock] at hg
  · simp [Value.ownBlock] at hg
    subst hg
    exact ⟨_, _, hc⟩
def BxRes (F : List Bx) (w : World) (e : Ending) (w' : World) : Prop := ∃ v, e = .returned v ∧ w'.ownsRow w.heap.size 35 6 v F.length (bxcells F) ∧ Below w.heap.size w w'
structure QW (v : Value) (F : List Bx) (w wr : World) : Prop where
  own : wr.ownsRow w.heap.size 35 6 v F.length (bxcells F)
  bel : Below w.heap.size w wr
end Go.Proofs.YtdnoadngfkiabaaGreat
