/-
  Contracts of layer 13 (25): Split.
-/
import Derived.Test.YtngddecpfhlilaaGreatC34
set_option linter.unusedVariables false
set_option maxRecDepth 100000
namespace Go.Proofs.YtngddecpfhlilaaGreat
open Go.RowKit
set_option maxHeartbeats 32000000 in
theorem split13_any (A : Option Addr) (cap : Nat) (L : List Lt) (k : Int) (AC : Option Addr) (cc : Nat) (cut : List Rc) (a b : Int) (w : World) (h : LtIn w A cap L) (hcut : RIn w AC cc cut) :
  Calls Tryz.prog 32 #[.slice A L.length cap, .int .i64 k, .slice AC cut.length cc, .int .i64 a, .int .i64 b] w (OpR (splitM landB rgB oneB L k cut a b) w) := by
 have HR := Lib.hid (fun w' (hb : Below w.heap.size w w') => right13_any A cap L w' (h.below hb))
 have HG := Lib.hid (fun w' (hb : Below w.heap.size w w') => rg_any AC cc cut w' (hcut.below hb))
 have HNA := Lib.hid (fun w' => num_any a w')
 have HNB := Lib.hid (fun w' => num_any b w')
 have HIX := Lib.hid (fun (h1 : landB L = true) w' (hb : Below w.heap.size w w') => ix_any A cap L k w' (h.below hb) ((landB_iff L).1 h1).asc)
 have HTA := Lib.hid (fun w' (hb : Below w.heap.size w w') => taken_any A cap L a w' (h.below hb))
 have HTB := Lib.hid (fun w' (hb : Below w.heap.size w w') => taken_any A cap L b w' (h.below hb))
 have HLT : Hid (landB L = true → rgB cut = true → ∀ t, findL L k = some t → t.id = k ∧ L.length ≤ 20000 ∧ Asc t.fr ∧ t.fr.length ≤ 1073741824 ∧ opR and t.ar cut = capR (formO and t.ar cut) ∧ opR andnot t.ar cut = capR (formO andnot t.ar cut)) := Lib.hid (fun h1 h2 t ht => by
  have hL := (landB_iff L).1 h1
  obtain ⟨hm, he⟩ := find_mem ht
  have hlt := hL.lot t hm
  have hfr : frB t.fr = true := by
   have h3 := hlt
   unfold lotB at h3
   simp only [Bool.and_eq_true] at h3
   exact h3.1.1.1
  have hrg := (lotB_one hlt).1
  exact ⟨he, hL.len, (frB_asc hfr).1, fr_room hfr, op_yes _ hrg ((rgB_iff _).1 h2), op_yes _ hrg ((rgB_iff _).1 h2)⟩)
 have HCM := Lib.hid (fun (ar : List Rc) PA PC w' (hb : Below w.heap.size w w') (h1 : RIn w' PA PC ar) => gcommon_any PA PC AC cc ar cut w' h1 (hcut.below hb))
 have HMN := Lib.hid (fun (ar : List Rc) PA PC w' (hb : Below w.heap.size w w') (h1 : RIn w' PA PC ar) => gminus_any PA PC AC cc ar cut w' h1 (hcut.below hb))
 have HCH : Hid (landB L = true → takB L a = false → takB L b = false → a ≠ b → ∀ u v : Lt, u.id = a → v.id = b → ∀ w' g pb (p q : LtP), Below w.heap.size w w' → w'.heap[g]? = some (.cells #[.int .i64 k] 3 (0, 0)) → w'.heap[pb]? = some (.cells #[.int .i64 u.id, .int .i64 u.ow, .slice p.A u.ar.length p.c, .slice p.B u.fr.length p.d, .int .i64 v.id, .int .i64 v.ow, .slice q.A v.ar.length q.c, .slice q.B v.fr.length q.d] 40 (0, 0)) → LtI w' u p → LtI w' v q → Calls Tryz.prog 80 #[.slice A L.length cap, .slice (some ⟨g, 0, none⟩) 1 1, .slice (some ⟨pb, 0, none⟩) 2 2] w' (fun e w2 => ∃ A c, e = .returned (.slice A (chL [k] [u, v] L).length c) ∧ LtIn w2 A c (chL [k] [u, v] L) ∧ Below w.heap.size w w2)) := Lib.hid (fun h1 h2 h3 hne u v hu hv w' g pb p q hb hg hp hi hj => by
  have hL := (landB_iff L).1 h1
  refine (changed_any A cap L [k] (some ⟨g, 0, none⟩) 1 [u, v] (some ⟨pb, 0, none⟩) 2 w' (h.below hb) (NIn.one hg) trivial (LtIn.two hp hi hj) (by have := hL.len; omega) (by simp)).mono (fun e w2 hc => ?_)
  obtain ⟨A2, c2, R, rfl, h4, hpm, hs, hb2⟩ := hc
  have e := ch_eq (N := [u, v]) hL.asc (show DifL [u, v] from ⟨(fun z hz => by simp at hz; rw [hz, hu, hv]; exact hne), (fun z hz => nomatch hz), trivial⟩) (fun z hz y hy _ c => by
   simp only [List.mem_cons, List.not_mem_nil, or_false] at hz
   rcases hz with rfl | rfl
   ·have : takB L a = true := (takB_iff L a).2 ⟨y, hy, .inl (by rw [c, hu])⟩
    rw [h2] at this; exact absurd this (by simp)
   ·have : takB L b = true := (takB_iff L b).2 ⟨y, hy, .inl (by rw [c, hv])⟩
    rw [h3] at this; exact absurd this (by simp)) hpm hs
  subst e
  exact ⟨A2, c2, rfl, h4, hb.trans (hb2.mono hb.size)⟩)
 have HAT := Lib.hid (fun i (hi : i < L.length) => h.at_ hi)
 have hlen := h.len
 clear h hcut
 have HX : Hid (splitM landB rgB oneB L k cut a b = if (landB L && rgB cut && nB a && nB b && decide (a ≠ b)) = false then (([] : List Lt), (1 : Int)) else match findL L k with | none => ([], 4) | some t => if (takB L a || takB L b) = true then ([], 5) else if formO and t.ar cut = [] ∨ formO andnot t.ar cut = [] then ([], 10) else if 200 < (formO and t.ar cut).length ∨ 200 < (formO andnot t.ar cut).length ∨ 20000 ≤ L.length then ([], 6) else if (oneB (formO and t.ar cut) && oneB (formO andnot t.ar cut)) = false then ([], 12) else (chL [k] (splitN t cut a b) L, 0)) := Lib.hid (by unfold splitM; cases findL L k <;> rfl)
 generalize splitM landB rgB oneB L k cut a b = X at *
 generalize landB L = lb at *
 generalize rgB cut = rb at *
 generalize nB a = na at *
 generalize nB b = nb at *
 generalize takB L a = ta at *
 generalize takB L b = tb at *
 have HB0 := Lib.hid (Below.refl w.heap.size w)
 go_enter Tryz.func32, Tryz.ntmps32
 go_wp2_with fail
 refine (HR.out _ HB0.out).mono ?_
 rintro e w1 ⟨rfl, hb⟩
 have HB1 := Lib.hid (HB0.out.trans (hb.mono HB0.out.size)); clear hb
 cases lb
 ·have HV : Hid (X = ([], 1)) := Lib.hid (by rw [HX.out]; simp)
  clear HX
  go_wp2_with fail
  go_ret2
  rw [HV.out]; exact OpR.err 1 HB1.out
 ·go_wp2_with fail
  refine (HG.out _ HB1.out).mono ?_
  rintro e w2 ⟨rfl, hb⟩
  have HB2 := Lib.hid (HB1.out.trans (hb.mono HB1.out.size)); clear hb
  cases rb
  ·have HV : Hid (X = ([], 1)) := Lib.hid (by rw [HX.out]; simp)
   clear HX
   go_wp2_with fail
   go_ret2
   rw [HV.out]; exact OpR.err 1 HB2.out
  ·go_wp2_with fail
   refine (HNA.out _).mono ?_
   rintro e w3 ⟨rfl, hb⟩
   have HB3 := Lib.hid (HB2.out.trans (hb.mono HB2.out.size)); clear hb
   cases na
   ·have HV : Hid (X = ([], 1)) := Lib.hid (by rw [HX.out]; simp)
    clear HX
    go_wp2_with fail
    go_ret2
    rw [HV.out]; exact OpR.err 1 HB3.out
   ·go_wp2_with fail
    refine (HNB.out _).mono ?_
    rintro e w4 ⟨rfl, hb⟩
    have HB4 := Lib.hid (HB3.out.trans (hb.mono HB3.out.size)); clear hb
    cases nb
    ·have HV : Hid (X = ([], 1)) := Lib.hid (by rw [HX.out]; simp)
     clear HX
     go_wp2_with fail
     go_ret2
     rw [HV.out]; exact OpR.err 1 HB4.out
    ·by_cases hab : a = b
     ·have e9 : (a == b) = true := by simpa using hab
      have HAB := Lib.hid hab; clear hab
      have HV : Hid (X = ([], 1)) := Lib.hid (by rw [HX.out]; simp [HAB.out])
      clear HX
      go_wp2_with fail
      go_ret2
      rw [HV.out]; exact OpR.err 1 HB4.out
     ·have e9 : (a == b) = false := by simpa using hab
      have HAB := Lib.hid hab; clear hab
      go_wp2_with fail
      refine (HIX.out trivial _ HB4.out).mono ?_
      rintro e w5 ⟨i, bx, rfl, h1, h2, hb⟩
      have HB5 := Lib.hid (HB4.out.trans (hb.mono HB4.out.size)); clear hb
      cases bx
      ·have hn := h2 rfl
       have HV : Hid (X = ([], 4)) := Lib.hid (by rw [HX.out]; rw [hn]; simp [HAB.out])
       clear HX h1 h2 hn
       go_wp2_with fail
       go_ret2
       rw [HV.out]; exact OpR.err 4 HB5.out
      ·obtain ⟨hi, hf, hid⟩ := h1 rfl
       obtain ⟨ab, ao, p, rfl, hb, hc, hI⟩ := HAT.out i hi
       have n0 : (0 : Int) ≤ (i : Int) := by omega
       have n1 : (i : Int) < (L.length : Int) := by omega
       obtain ⟨-, hLl, hfa, hfl, hoc, hom⟩ := HLT.out trivial trivial _ hf
       have HX2 : Hid (X = if (ta || tb) = true then (([] : List Lt), (5 : Int)) else if formO and L[i].ar cut = [] ∨ formO andnot L[i].ar cut = [] then ([], 10) else if 200 < (formO and L[i].ar cut).length ∨ 200 < (formO andnot L[i].ar cut).length ∨ 20000 ≤ L.length then ([], 6) else if (oneB (formO and L[i].ar cut) && oneB (formO andnot L[i].ar cut)) = false then ([], 12) else (chL [k] (splitN L[i] cut a b) L, 0)) := Lib.hid (by rw [HX.out, hf]; simp [HAB.out])
       have HX := HX2; clear HX2
       have HI := Lib.hid (fun w' (hb : Below w.heap.size w w') => hI.below hb)
       have HCC := Lib.hid (fun w' (hb2 : Below w.heap.size w w') => hc.below hb hb2)
       have HFL := Lib.hid (line_one hfa)
       have HCM2 := Lib.hid (HCM.out L[i].ar)
       have HMN2 := Lib.hid (HMN.out L[i].ar)
       rw [hoc] at HCM2
       rw [hom] at HMN2
       unfold splitN at HX
       clear h1 h2 hI hc hid hf hfa hoc hom HLT HIX HCM HMN HAT
       generalize hu : L[i] = t at *
       clear hu
       obtain ⟨id, ow, ar, fr⟩ := t
       obtain ⟨PA, PC, PB, PD⟩ := p
       simp only at HX hfl HFL HCM2 HMN2
       have HI1 := Lib.hid (cap_cases (formO and ar cut))
       have HO1 := Lib.hid (cap_cases (formO andnot ar cut))
       generalize formO and ar cut = I at *
       generalize formO andnot ar cut = O at *
       go_wp2_with fail
       refine (HTA.out _ HB5.out).mono ?_
       rintro e w6 ⟨rfl, hb⟩
       have HB6 := Lib.hid (HB5.out.trans (hb.mono HB5.out.size)); clear hb
       cases ta
       rotate_left
       ·have HV : Hid (X = ([], 5)) := Lib.hid (by rw [HX.out]; simp)
        clear HX
        go_wp2_with fail
        go_ret2
        rw [HV.out]; exact OpR.err 5 HB6.out
       ·go_wp2_with fail
        refine (HTB.out _ HB6.out).mono ?_
        rintro e w7 ⟨rfl, hb⟩
        have HB7 := Lib.hid (HB6.out.trans (hb.mono HB6.out.size)); clear hb
        cases tb
        rotate_left
        ·have HV : Hid (X = ([], 5)) := Lib.hid (by rw [HX.out]; simp)
         clear HX
         go_wp2_with fail
         go_ret2
         rw [HV.out]; exact OpR.err 5 HB7.out
        ·obtain ⟨x0, x1, x2, x3⟩ := HCC.out _ HB7.out
         simp only at x0 x1 x2 x3
         have hz7 := HB7.out.size
         have hbl : ab < w7.heap.size := by omega
         clear HCC HTA HTB HNA HNB HR HG
         obtain ⟨g, hg⟩ : ∃ g, g = w7.heap.size := ⟨_, rfl⟩
         have HLA : Hid (LtAt (w7.alloc (.cells #[.int .i64 id, .int .i64 ow, .slice PA ar.length PC, .slice PB fr.length PD] 40)) w7.heap.size ⟨id, ow, ar, fr⟩ ⟨PA, PC, PB, PD⟩) := Lib.hid (LtAt.new w7 ⟨id, ow, ar, fr⟩ ⟨PA, PC, PB, PD⟩ _ rfl rfl rfl)
         have HBA : Hid (Below w.heap.size w (w7.alloc (.cells #[.int .i64 id, .int .i64 ow, .slice PA ar.length PC, .slice PB fr.length PD] 40))) := Lib.hid (HB7.out.trans (((Below.refl _ _).alloc (Nat.le_refl _) _).mono HB7.out.size))
         have HYY : Hid (∀ w' z, LtAt w' z ⟨id, ow, ar, fr⟩ ⟨PA, PC, PB, PD⟩ → w'.cell? ⟨z, 0, none⟩ = some (.int .i64 id) ∧ w'.cell? ⟨z, 1, none⟩ = some (.int .i64 ow) ∧ w'.cell? ⟨z, 2, none⟩ = some (.slice PA ar.length PC) ∧ w'.cell? ⟨z, 3, none⟩ = some (.slice PB fr.length PD) ∧ z < w'.heap.size) := Lib.hid (fun w' z h => by
          obtain ⟨c0, c1, c2, c3⟩ := h.c
          simp only [Nat.zero_add] at c1 c2 c3
          exact ⟨c0, c1, c2, c3, h.lt⟩)
         go_wp2_with fail
         rw [← hg] at HLA
         simp only [← hg]
         generalize w7.alloc (.cells #[.int .i64 id, .int .i64 ow, .slice PA ar.length PC, .slice PB fr.length PD] 40) = wa at *
         clear x0 x1 x2 x3 hg hz7 hbl
         refine (HCM2.out PA PC _ HBA.out (HI.out _ HBA.out).ar).mono ?_
         rintro e w8 ⟨v8, rfl, ho8, hb8⟩
         have HL8 := Lib.hid (HLA.out.below hb8)
         have HB8 := Lib.hid (HBA.out.trans (hb8.mono HBA.out.size)); clear hb8
         obtain ⟨A8, c8, rfl, _, _, _, _, hn8⟩ := own_rects ho8
         have HR8 : Hid (∀ w', Below w8.heap.size w8 w' → (capR I).1.length ≤ 200 → RIn w' A8 c8 (capR I).1) := Lib.hid (fun w' hb hl => (own_rin ho8 (by omega)).below hb)
         have HN8 := Lib.hid hn8
         clear ho8 hn8
         obtain ⟨y0, y1, y2, y3, yl⟩ := HYY.out _ _ HL8.out
         go_wp2_with fail
         refine (HMN2.out PA PC _ HB8.out (HI.out _ HB8.out).ar).mono ?_
         rintro e w9 ⟨v9, rfl, ho9, hb9⟩
         have HL9 := Lib.hid (HL8.out.below hb9)
         have HB9 := Lib.hid (HB8.out.trans (hb9.mono HB8.out.size))
         obtain ⟨A9, c9, rfl, _, _, _, _, hn9⟩ := own_rects ho9
         have HR9 : Hid (∀ w', Below w9.heap.size w9 w' → (capR O).1.length ≤ 200 → RIn w' A9 c9 (capR O).1) := Lib.hid (fun w' hb hl => (own_rin ho9 (by omega)).below hb)
         have HR8b : Hid (∀ w', Below w9.heap.size w9 w' → (capR I).1.length ≤ 200 → RIn w' A8 c8 (capR I).1) := Lib.hid (fun w' hb hl => HR8.out w' (hb9.trans (hb.mono hb9.size)) hl)
         have HN9 := Lib.hid hn9
         clear ho9 hn9 hb9 y0 y1 y2 y3 yl HR8
         rcases HI1.out with ⟨i1, i2, i3⟩ | ⟨i1, i2, i3⟩ <;> rcases HO1.out with ⟨o1, o2, o3⟩ | ⟨o1, o2, o3⟩ <;> rw [i1] at HR8b <;> rw [o1] at HR9 <;> simp only [i1, i2, o1, o2] <;> clear i1 i2 o1 o2 HI1 HO1
         ·have hL2 := hLl
          by_cases hi0 : I = []
          ·subst hi0
           have HV : Hid (X = ([], 10)) := Lib.hid (by rw [HX.out]; simp)
           clear HX
           go_wp2_with fail
           go_ret2
           rw [HV.out]; exact OpR.err 10 HB9.out
          ·have hip := List.length_pos_iff.2 hi0
           have s0 : ((I.length : Int) == 0) = false := by simp; omega
           by_cases ho0 : O = []
           ·subst ho0
            have HV : Hid (X = ([], 10)) := Lib.hid (by rw [HX.out]; simp)
            clear HX
            go_wp2_with fail
            go_ret2
            rw [HV.out]; exact OpR.err 10 HB9.out
           ·have hop := List.length_pos_iff.2 ho0
            have s1 : ((O.length : Int) == 0) = false := by simp; omega
            have HI0 := Lib.hid hi0; have HO0 := Lib.hid ho0
            clear hi0 ho0
            by_cases h20 : L.length = 20000
            ·have s2 : ((L.length : Int) == 20000) = true := by simp; omega
             have H20 := Lib.hid h20; clear h20
             have HV : Hid (X = ([], 6)) := Lib.hid (by rw [HX.out]; simp [HI0.out, HO0.out, H20.out])
             clear HX
             go_wp2_with fail
             go_ret2
             rw [HV.out]; exact OpR.err 6 HB9.out
            ·have s2 : ((L.length : Int) == 20000) = false := by simp; omega
             have HXF : Hid (X = if (oneB I && oneB O) = false then ([], 12) else (chL [k] [⟨a, ow, I, insS id fr⟩, ⟨b, ow, O, insS id fr⟩] L, 0)) := Lib.hid (by rw [HX.out]; simp only [Bool.or_self, Bool.false_eq_true, if_false]; rw [if_neg (by simp [HI0.out, HO0.out]), if_neg (by omega)])
             have HX := HXF; clear HXF
             have HP := Lib.hid (fun w' (hb : Below w9.heap.size w9 w') => one_any A8 c8 I w' (HR8b.out w' hb i3))
             have HQ := Lib.hid (fun w' (hb : Below w9.heap.size w9 w') => one_any A9 c9 O w' (HR9.out w' hb o3))
             generalize oneB I = p1 at *
             generalize oneB O = p2 at *
             go_wp2_with fail
             refine (HP.out _ (Below.refl _ _)).mono ?_
             rintro e w10 ⟨rfl, hb⟩
             have HB10 := Lib.hid (HB9.out.trans (hb.mono HB9.out.size))
             have HL10 := Lib.hid (HL9.out.below hb)
             have HC10 := Lib.hid hb; clear hb
             cases p1
             ·have HV : Hid (X = ([], 12)) := Lib.hid (by rw [HX.out]; simp)
              clear HX
              go_wp2_with fail
              go_ret2
              rw [HV.out]; exact OpR.err 12 HB10.out
             ·go_wp2_with fail
              refine (HQ.out _ HC10.out).mono ?_
              rintro e w11 ⟨rfl, hb⟩
              have HB11 := Lib.hid (HB10.out.trans (hb.mono HB10.out.size))
              have HL11 := Lib.hid (HL10.out.below hb)
              have HC11 := Lib.hid (HC10.out.trans (hb.mono HC10.out.size)); clear hb
              cases p2
              ·have HV : Hid (X = ([], 12)) := Lib.hid (by rw [HX.out]; simp)
               clear HX
               go_wp2_with fail
               go_ret2
               rw [HV.out]; exact OpR.err 12 HB11.out
              ·have HV : Hid (X = (chL [k] [⟨a, ow, I, insS id fr⟩, ⟨b, ow, O, insS id fr⟩] L, 0)) := Lib.hid (by rw [HX.out]; simp)
               obtain ⟨y0, y1, y2, y3, yl⟩ := HYY.out _ _ HL11.out
               clear HX
               have HLI : Hid (∀ w' z, Below w.heap.size w w' → LtAt w' z ⟨id, ow, ar, fr⟩ ⟨PA, PC, PB, PD⟩ → Calls Tryz.prog 79 #[.slice (some ⟨z, 0, none⟩) 1 1] w' (fun e w2 => ∃ A c, e = .returned (.slice A (insS id fr).length c) ∧ NIn w2 A c (insS id fr) ∧ A ≠ none ∧ Below w'.heap.size w' w2)) := Lib.hid (fun w' z hb hat => (line_any (some ⟨z, 0, none⟩) 1 [⟨id, ow, ar, fr⟩] w' (LtIn.one hat (HI.out w' hb)) (by show (id :: fr ++ []).length ≤ _; simp; omega)).mono (fun e w2 ⟨A, c, h1, h2, h3, h4⟩ => by
                rw [HFL.out] at h1 h2 h3
                exact ⟨A, c, h1, h2, h3 (List.length_pos_of_mem ((insS_mem id fr id).2 (.inl rfl))), h4⟩))
               clear HFL
               generalize insS id fr = FR at *
               have HBl : Hid (Below w.heap.size w (w11.alloc (.cells #[.int .i64 id, .int .i64 ow, .slice PA ar.length PC, .slice PB fr.length PD] 40))) := Lib.hid (HB11.out.trans (((Below.refl _ _).alloc (Nat.le_refl _) _).mono HB11.out.size))
               have HLl : Hid (LtAt (w11.alloc (.cells #[.int .i64 id, .int .i64 ow, .slice PA ar.length PC, .slice PB fr.length PD] 40)) g ⟨id, ow, ar, fr⟩ ⟨PA, PC, PB, PD⟩) := Lib.hid (HL11.out.below ((Below.refl _ _).alloc (Nat.le_refl _) _))
               have HCl := Lib.hid (HC11.out.trans (((Below.refl _ w11).alloc (Nat.le_refl _) (.cells #[.int .i64 id, .int .i64 ow, .slice PA ar.length PC, .slice PB fr.length PD] 40)).mono HC11.out.size))
               go_wp2_with fail
               refine (HLI.out _ _ HBl.out (LtAt.new w11 ⟨id, ow, ar, fr⟩ ⟨PA, PC, PB, PD⟩ _ rfl rfl rfl)).mono ?_
               rintro e w12 ⟨A12, c12, rfl, hn12, hne12, hb12⟩
               have HB12 := Lib.hid (HBl.out.trans (hb12.mono HBl.out.size))
               have HC12 := Lib.hid (HCl.out.trans (hb12.mono HCl.out.size))
               have HN12 := Lib.hid hn12; have HE12 := Lib.hid hne12
               clear y0 y1 y2 y3 yl
               obtain ⟨y0, y1, y2, y3, yl⟩ := HYY.out _ _ (HLl.out.below hb12)
               clear hb12 hn12 hne12
               go_wp2_with fail
               have e2 : (((w12.alloc (.cells #[.int .i64 a, .int .i64 ow, .slice A8 I.length c8, .slice A12 FR.length c12] 40)).alloc (.cells #[.int .i64 b, .int .i64 ow, .slice A9 O.length c9, .slice A12 FR.length c12] 40))).heap.size = w12.heap.size + 1 + 1 := by simp
               have e3 : ((((w12.alloc (.cells #[.int .i64 a, .int .i64 ow, .slice A8 I.length c8, .slice A12 FR.length c12] 40)).alloc (.cells #[.int .i64 b, .int .i64 ow, .slice A9 O.length c9, .slice A12 FR.length c12] 40))).alloc (.cells #[.int .i64 k] 3)).heap.size = w12.heap.size + 1 + 1 + 1 := by simp
               have hbW : Below w12.heap.size w12 (((((w12.alloc (.cells #[.int .i64 a, .int .i64 ow, .slice A8 I.length c8, .slice A12 FR.length c12] 40)).alloc (.cells #[.int .i64 b, .int .i64 ow, .slice A9 O.length c9, .slice A12 FR.length c12] 40))).alloc (.cells #[.int .i64 k] 3)).alloc (.cells #[.int .i64 a, .int .i64 ow, .slice A8 I.length c8, .slice A12 FR.length c12, .int .i64 b, .int .i64 ow, .slice A9 O.length c9, .slice A12 FR.length c12] 40)) := (((((Below.refl _ _).alloc (Nat.le_refl _) _).alloc (by simp) _).alloc (by rw [e2]; omega) _).alloc (by rw [e3]; omega) _)
               have HBW := Lib.hid (HB12.out.trans (hbW.mono HB12.out.size))
               have HCW := Lib.hid (HC12.out.trans (hbW.mono HC12.out.size))
               refine (HCH.out trivial trivial trivial HAB.out ⟨a, ow, I, FR⟩ ⟨b, ow, O, FR⟩ rfl rfl _ _ _ ⟨A8, c8, A12, c12⟩ ⟨A9, c9, A12, c12⟩ HBW.out ?g1 ?g2 ?g3 ?g4).mono ?_
               case g1 => rw [← e2]; exact (((Below.refl _ _).alloc (Nat.le_refl _) _).block _ (by simp)).trans (heap_alloc_new _ _)
               case g2 => rw [← e3]; exact heap_alloc_new _ _
               case g3 => exact ⟨HR8b.out _ HCW.out i3, HN12.out.below hbW, HN8.out, fun h => absurd h HE12.out⟩
               case g4 => exact ⟨HR9.out _ HCW.out o3, HN12.out.below hbW, HN9.out, fun h => absurd h HE12.out⟩
               rintro e w13 ⟨A13, c13, rfl, h13, hb13⟩
               have HF : Hid (OpR (chL [k] [⟨a, ow, I, FR⟩, ⟨b, ow, O, FR⟩] L, 0) w (.returned (.tuple #[.slice A13 (chL [k] [⟨a, ow, I, FR⟩, ⟨b, ow, O, FR⟩] L).length c13, .int .i64 0])) w13) := Lib.hid ⟨A13, c13, rfl, h13, hb13⟩
               clear h13 hb13 hbW e2 e3
               go_wp2_with fail
               go_ret2
               rw [HV.out]; exact HF.out
         ·by_cases hi0 : I = []
          ·subst hi0
           have HV : Hid (X = ([], 10)) := Lib.hid (by rw [HX.out]; simp)
           clear HX
           go_wp2_with fail
           go_ret2
           rw [HV.out]; exact OpR.err 10 HB9.out
          ·have hip := List.length_pos_iff.2 hi0
           have s0 : ((I.length : Int) == 0) = false := by simp; omega
           have ho0 : O ≠ [] := fun c => by rw [c] at o3; simp at o3
           have HI0 := Lib.hid hi0; have HO0 := Lib.hid ho0
           clear hi0 ho0
           have HV : Hid (X = ([], 6)) := Lib.hid (by rw [HX.out]; simp [HI0.out, HO0.out, o3])
           clear HX
           go_wp2_with fail
           go_ret2
           rw [HV.out]; exact OpR.err 6 HB9.out
         ·by_cases ho0 : O = []
          ·subst ho0
           have HV : Hid (X = ([], 10)) := Lib.hid (by rw [HX.out]; simp)
           clear HX
           go_wp2_with fail
           go_ret2
           rw [HV.out]; exact OpR.err 10 HB9.out
          ·have hop := List.length_pos_iff.2 ho0
           have s0 : ((O.length : Int) == 0) = false := by simp; omega
           have hi0 : I ≠ [] := fun c => by rw [c] at i3; simp at i3
           have HI0 := Lib.hid hi0; have HO0 := Lib.hid ho0
           clear hi0 ho0
           have HV : Hid (X = ([], 6)) := Lib.hid (by rw [HX.out]; simp [HI0.out, HO0.out, i3])
           clear HX
           go_wp2_with fail
           go_ret2
           rw [HV.out]; exact OpR.err 6 HB9.out
         ·have hi0 : I ≠ [] := fun c => by rw [c] at i3; simp at i3
          have ho0 : O ≠ [] := fun c => by rw [c] at o3; simp at o3
          have HI0 := Lib.hid hi0; have HO0 := Lib.hid ho0
          clear hi0 ho0
          have HV : Hid (X = ([], 6)) := Lib.hid (by rw [HX.out]; simp [HI0.out, HO0.out, i3])
          clear HX
          go_wp2_with fail
          go_ret2
          rw [HV.out]; exact OpR.err 6 HB9.out
end Go.Proofs.YtngddecpfhlilaaGreat
