/-
  The law ParcelNears of layer 13.
-/
import Derived.Test.YtngddecpfhlilaaGreatC42
import Derived.BigQuiet
import Derived.Deep.RegionHeld3
set_option linter.unusedVariables false
set_option maxRecDepth 100000
namespace Go.Proofs.YtngddecpfhlilaaGreat
open Go.RowKit
theorem tkLX {v : Value} {P : Program} {ops : Array Oper} {Q : Exit → Act → World → Prop} {md : Region.Mode} {S : World → Prop} {i : Nat} {oi : Oper} {fuel : Nat} {listed : Array Bool} {a : Act} {w : World} (hi : ops[i]? = some oi) (h : wpAnyH P md ops Q S fuel (listed.setIfInBounds i true) (a.put oi.dst v) w) (hy : ∀ w, S w → (execOp a.eval oi).run P w = .ok (.value v) w := by (intro w hSw; (try dsimp only at hSw); go_simp); try with_reducible rfl) (hs : Region.noSelect ops = true := by kernel_rfl) (hf : Region.free md ops listed i = true := by kernel_rfl) (hr : (Region.ready md ops listed).contains i = true := by kernel_rfl) (hQ : ∀ c a w, Q (.panic c) (a.put oi.dst v) w → Q (.panic c) a w := by exact fun _ _ _ h => h) (hg : Region.wanted oi (yielded ops a.tmps) = true := by rfl) (hS : S w := by assumption) : wpAnyH P md ops Q S (fuel + 1) listed a w :=
 wpAnyH_take hi hs hf hr hQ (Or.inl ⟨hg, hy⟩) hS h
theorem tuLX {P : Program} {ops : Array Oper} {Q : Exit → Act → World → Prop} {md : Region.Mode} {S : World → Prop} {i : Nat} {oi : Oper} {fuel : Nat} {listed : Array Bool} {a : Act} {w : World} (hi : ops[i]? = some oi) (h : wpAnyH P md ops Q S fuel (listed.setIfInBounds i true) (a.put oi.dst undef) w) (hs : Region.noSelect ops = true := by kernel_rfl) (hf : Region.free md ops listed i = true := by kernel_rfl) (hr : (Region.ready md ops listed).contains i = true := by kernel_rfl) (hQ : ∀ c a w, Q (.panic c) (a.put oi.dst undef) w → Q (.panic c) a w := by exact fun _ _ _ h => h) (hg : Region.wanted oi (yielded ops a.tmps) = false := by rfl) (hS : S w := by assumption) : wpAnyH P md ops Q S (fuel + 1) listed a w :=
 wpAnyH_take hi hs hf hr hQ (Or.inr ⟨hg, rfl⟩) hS h
theorem sxLX : (∀ (a : Act) (v : Value), a.put none v = a) ∧ (∀ (a : Act) (d : Tmp) (v : Value), a.put (some d) v = { a with tmps := a.tmps.setIfInBounds d v }) ∧ (∀ {α : Type} (l : List α) (i : Nat) (x : α), l.toArray.setIfInBounds i x = (l.set i x).toArray) ∧ (∀ {α : Type} (l : List α) (x y : α), (x :: l).set 0 y = y :: l) ∧ (∀ {α : Type} (l : List α) (x y : α) (n : Nat), (x :: l).set (n + 1) y = x :: l.set n y) :=
 ⟨fun _ _ => rfl, fun _ _ _ => rfl, fun _ _ _ => List.setIfInBounds_toArray .., fun _ _ _ => rfl, fun _ _ _ _ => rfl⟩
theorem LtI.fut {w : World} {t : Lt} {p : LtP} (h : LtI w t p) : Fut w (fun w' => LtI w' t p) := fun w' hb => h.below hb
def Pn13 (b o g : Nat) (id : Int) (v va : Value) (w' : World) : Prop := w'.cell? ⟨b, o, none⟩ = some (.int .i64 id) ∧ w'.cell? ⟨b, o + 2, none⟩ = some v ∧ w'.cell? ⟨g, 0 + 2, none⟩ = some va ∧ b < w'.heap.size ∧ g < w'.heap.size
theorem Pn13.go {b o g : Nat} {id : Int} {v va : Value} {w w' : World} (h : Pn13 b o g id v va w) (hb : Below w.heap.size w w') : Pn13 b o g id v va w' := by
 obtain ⟨h0, h1, h2, l1, l2⟩ := h
 exact ⟨(hb.cell (p := ⟨b, _, none⟩) l1).trans h0, (hb.cell (p := ⟨b, _, none⟩) l1).trans h1, (hb.cell (p := ⟨g, _, none⟩) l2).trans h2, Nat.lt_of_lt_of_le l1 hb.size, Nat.lt_of_lt_of_le l2 hb.size⟩
theorem Pn13.fut {b o g : Nat} {id : Int} {v va : Value} {w : World} (h : Pn13 b o g id v va w) : Fut w (Pn13 b o g id v va) := fun w' hb => h.go hb
theorem Kp.tail {P : World → Prop} {Ps : List (World → Prop)} {w0 w : World} (h : Kp (P :: Ps) w0 w) : Kp Ps w0 w := ⟨fun Q hQ => h.1 Q (List.mem_cons_of_mem _ hQ), h.2⟩
theorem wrap_lx {z : Int} (h : -9223372036854775808 ≤ z ∧ z ≤ 9223372036854775807) : IntKind.i64.wrap z = z := by
 rw [IntKind.wrap_i64]; omega
def PC1 (b o : Nat) (v : Int) (w : World) : Prop := w.cell? ⟨b, o, none⟩ = some (.int .i64 v) ∧ b < w.heap.size
theorem PC1.go {b o : Nat} {v : Int} {w w' : World} (h : PC1 b o v w) (hb : Below w.heap.size w w') : PC1 b o v w' := ⟨(hb.cell (p := ⟨b, o, none⟩) h.2).trans h.1, Nat.lt_of_lt_of_le h.2 hb.size⟩
theorem PC1.fut {b o : Nat} {v : Int} {w : World} (h : PC1 b o v w) : Fut w (PC1 b o v) := fun w' hb => h.go hb
set_option maxHeartbeats 64000000 in
theorem nears_any (A : Option Addr) (cap : Nat) (L : List Lt) (x d : Int) (w : World) (h : LtO w A cap L) (hd : -9223372036854775808 ≤ d) :
  Calls Tryz.prog 7 #[.slice A L.length cap, .int .i64 x, .int .i64 d] w (BlIs true w) := by
 have HSM := Lib.hid (fun w' => small13_any w')
 have HFW := Lib.hid (fun w' (h : LtO w' A cap L) => mfewo_any A cap L w' h)
 have K := Lib.hid ((Kp.start w).add (Below.refl _ _) h.fut)
 have HFL := Lib.hid (fun (hf : fewB L = true) => few_len hf)
 have HIN := Lib.hid (fun (hf : fewB L = true) (w' : World) (h : LtO w' A cap L) => h.few hf)
 clear h
 generalize fewB L = fw at *
 go_enter Tryz.func7, Tryz.ntmps7
 go_wp2_with fail
 refine (HSM.out _).mono ?_
 rintro e w1 ⟨rfl, hb1⟩
 replace K := Lib.hid (K.out.go hb1)
 clear hb1 HSM
 go_wp2_with fail
 refine (HFW.out _ (K.out.nth 0 rfl)).mono ?_
 rintro e w2 ⟨rfl, hb2⟩
 replace K := Lib.hid (K.out.go hb2)
 clear hb2 HFW
 cases fw
 ·go_wp2_with fail
  go_ret
  exact ⟨rfl, K.out.2⟩
 obtain ⟨hl12, hl20⟩ := HFL.out rfl
 have HI := Lib.hid (HIN.out rfl _ (K.out.nth 0 rfl))
 replace K := Lib.hid (show Kp [fun w' => LtIn w' A cap L] w w2 from ⟨fun P hP => by
  obtain rfl := List.mem_singleton.1 hP
  exact HI.out.fut, K.out.2⟩)
 clear HI HIN HFL
 have HFD := Lib.hid (fun w' (h : LtIn w' A cap L) => find13_any A cap L x w' h)
 have HNR := Lib.hid (fun y d w' (h : LtIn w' A cap L) => show Calls Tryz.prog 20 #[.slice A L.length cap, .int .i64 y, .int .i64 d] w' (NmR (nearS L y d) w') from near13_any A cap L y d w' h)
 go_wp2_with fail
 refine (HFD.out _ (K.out.nth 0 rfl)).mono ?_
 rintro e w3 ⟨p, rfl, hr3, hb3⟩
 replace K := Lib.hid (K.out.add hb3 hr3.fut)
 clear hr3 hb3 HFD
 unfold lvl
 go_wp2_with fail
 have HT := Lib.hid (LtAt.new w3 ((findL L x).getD lt0) p w3.heap.size rfl (n := _) (m := _) rfl rfl)
 replace K := Lib.hid (K.out.add (P := fun w' => LtAt w' w3.heap.size ((findL L x).getD lt0) p) ((Below.refl _ _).alloc (Nat.le_refl _) _) (fun w' hb => HT.out.below hb))
 clear HT
 generalize w3.alloc _ = wq at *
 generalize w3.heap.size = g at *
 refine (HNR.out x d _ (K.out.nth 2 rfl)).mono ?_
 rintro e w4 ⟨An, cn, rfl, hr4, hb4⟩
 replace K := Lib.hid (K.out.add hb4 hr4.fut)
 have hsl := hr4.len
 clear hr4 hb4
 have HAS := Lib.hid (near_asc L x d)
 have HNO := Lib.hid (fun (h : findL L x = none) => near_none (d := d) h)
 have HHS := Lib.hid (fun (t u : Lt) (h : findL L x = some t) (hu : u ∈ L) h1 h2 h3 => near_has (x := x) (d := d) h hu h1 h2 h3)
 have HIS := Lib.hid (fun (t : Lt) (n : Int) (h : findL L x = some t) hn => near_is (x := x) (d := d) (n := n) h hn)
 have HBK := Lib.hid (fun (t : Lt) (n : Int) (hl : LandP L) (h : findL L x = some t) hn => near_back (x := x) (d := d) (n := n) hl h hn)
 have HMO := Lib.hid (fun (t : Lt) (n : Int) (h : findL L x = some t) hn => near_more (x := x) (d := d) (n := n) h hn)
 generalize hS : nearS L x d = S at *
 clear hS
 go_wp2_with fail
 go_loopw [11] (fun i wr => ∃ (j : Nat), 1 ≤ j ∧ (j ≤ S.length ∨ j = 1) ∧ i = .int .i64 j ∧ Hid (Kp [fun w' => NIn w' An cn S, fun w' => LtAt w' g ((findL L x).getD lt0) p, fun w' => LtI w' ((findL L x).getD lt0) p, fun w' => LtIn w' A cap L] w wr)) (fun i _ => S.length - (intOf i).toNat)
 case atStart => exact ⟨1, Nat.le_refl _, .inr rfl, rfl, K⟩
 case round =>
  clear K
  obtain ⟨j, hj1, hj, rfl, K⟩ := hrel
  by_cases hlt : j < S.length
  ·have HE := Lib.hid (K.out.nth 0 rfl)
   obtain ⟨b, o, rfl, hb, hc⟩ := HE.out.row (by omega)
   obtain ⟨m, rfl⟩ : ∃ m, j = m + 1 := ⟨j - 1, by omega⟩
   have x0 := hc (m + 1) hlt
   have x1 := hc m (by omega)
   have n0 : (0 : Int) ≤ ((m + 1 : Nat) : Int) := by omega
   have n1 : ((m + 1 : Nat) : Int) < (S.length : Int) := by omega
   have r1 : ((m + 1 : Nat) : Int) - 1 = (m : Int) := by omega
   have m0 : (0 : Int) ≤ (m : Int) := by omega
   have m1 : (m : Int) < (S.length : Int) := by omega
   have hd : decide (S[m + 1] ≤ S[m]) = false := decide_eq_false (by have := asc_at HAS.out (i := m) (j := m + 1) (by omega) hlt; omega)
   clear hc hb HE
   generalize S[m + 1] = y at *
   generalize S[m] = y' at *
   go_wp2_with fail
   go_quiet (fail)
   go_wp2_with fail
   go_roundw
   case rel => exact ⟨m + 1 + 1, by omega, by omega, by go_num, Lib.hid (K.out.go (below_drewN (Below.refl _ _) _))⟩
   case measure => simp [intOf]; omega
  ·have s0 : ¬ (j : Int) < (S.length : Int) := by omega
   cases hf : findL L x with
   | none =>
    have h0 := HNO.out hf
    subst h0
    rw [hf] at K
    clear HIS HHS HBK HMO HNO hf
    simp only [List.length_nil] at *
    go_wp2_with fail
    go_ret
    exact ⟨rfl, K.out.2⟩
   | some t =>
    rw [hf] at K
    replace HIS := Lib.hid (fun n hn => HIS.out t n hf hn)
    replace HHS := Lib.hid (fun u hu => HHS.out t u hf hu)
    replace HBK := Lib.hid (fun n hl hn => HBK.out t n hl hf hn)
    replace HMO := Lib.hid (fun n hn => HMO.out t n hf hn)
    clear hf HNO
    go_wp2_with fail
    have HGP := Lib.hid (fun A1 c1 A2 c2 a b w' (ha : RIn w' A1 c1 a) (hb : RIn w' A2 c2 b) => ygap_any A1 c1 A2 c2 a b w' ha hb)
    have HWI := Lib.hid (fun n w' (h : NIn w' An cn S) => win_any An cn S n w' h)
    simp only [Option.getD_some] at K
    go_loopw [12] (fun i wr => ∃ (j : Nat), j ≤ L.length ∧ i = .int .i64 j ∧ Hid (Kp [fun w' => NIn w' An cn S, fun w' => LtAt w' g t p, fun w' => LtI w' t p, fun w' => LtIn w' A cap L] w wr)) (fun i _ => L.length - (intOf i).toNat)
    case atStart => exact ⟨0, Nat.zero_le _, rfl, K⟩
    case round =>
     clear K
     obtain ⟨j2, hj2, rfl, K⟩ := hrel
     by_cases hlt2 : j2 < L.length
     ·obtain ⟨b, o, p2, rfl, hb, hc, hi⟩ := (K.out.nth 3 rfl).at_ hlt2
      obtain ⟨x0, x1, x2, x3⟩ := hc
      have htb := K.out.nth 1 rfl
      obtain ⟨q0, q1, q2, q3⟩ := htb.c
      have hgl := htb.lt
      have HIU := Lib.hid hi.ar.fut
      have n0 : (0 : Int) ≤ (j2 : Int) := by omega
      have n1 : (j2 : Int) < (L.length : Int) := by omega
      have HH2 := Lib.hid (HHS.out L[j2] (List.getElem_mem hlt2))
      clear hi htb
      generalize L[j2] = u at *
      obtain ⟨id, ow, ar, fr⟩ := u
      simp only at x0 x1 x2 x3 HIU HH2
      have HPN : Hid (Pn13 b (o + j2 * 4) g id (.slice p2.A ar.length p2.c) (.slice p.A t.ar.length p.c) wr) := Lib.hid ⟨x0, x2, q2, hb, hgl⟩
      have KP := Lib.hid (K.out.add (Below.refl _ _) HPN.out.fut)
      have HG2 := Lib.hid (fun w' (hb : Below wr.heap.size wr w') => HGP.out p.A p.c p2.A p2.c t.ar ar w' ((K.out.nth 2 rfl).ar.below hb) (HIU.out w' hb))
      clear x0 x1 x2 x3 q0 q1 q2 q3 hb hgl K HIU
      generalize gapM t.ar ar = gm at *
      obtain ⟨gv, gok⟩ := gm
      simp only at HH2
      go_wp2_with fail
      refine wp_region_held_drew (S := fun w' => w'.cell? ⟨b, o + j2 * 4, none⟩ = some (.int .i64 id) ∧ w'.cell? ⟨b, o + j2 * 4 + 2, none⟩ = some (.slice p2.A ar.length p2.c) ∧ w'.cell? ⟨g, 0 + 2, none⟩ = some (.slice p.A t.ar.length p.c) ∧ b < w'.heap.size ∧ g < w'.heap.size) (by kernel_rfl) ?_ (fun hHeld => ?_)
      ·exact HPN.out.go (below_drewN (Below.refl _ _) 1)
      refine tkLX (i := 0) (oi := ⟨some 66, .fieldAddr 40 (.tmp 8) 2, 0, "law.go:257", #[], none⟩) rfl ?_
      try simp only [sxLX]
      refine tkLX (i := 1) (oi := ⟨some 67, .load 30 (.tmp 66), 30, "law.go:257", #[⟨0, .data⟩], none⟩) rfl ?_
      try simp only [sxLX]
      refine tkLX (i := 2) (oi := ⟨some 68, .move (.tmp 0), 22, "law.go:257", #[], none⟩) rfl ?_
      try simp only [sxLX]
      refine tkLX (i := 3) (oi := ⟨some 69, .move (.tmp 12), 3, "law.go:257", #[], none⟩) rfl ?_
      try simp only [sxLX]
      refine tkLX (i := 4) (oi := ⟨some 70, .indexAddr 22 (.tmp 68) (.tmp 69), 0, "law.go:257", #[⟨2, .data⟩, ⟨3, .data⟩], none⟩) rfl ?_
      try simp only [sxLX]
      refine tkLX (i := 5) (oi := ⟨some 71, .fieldAddr 40 (.tmp 70) 2, 0, "law.go:257", #[⟨4, .data⟩], none⟩) rfl ?_
      try simp only [sxLX]
      refine tkLX (i := 6) (oi := ⟨some 72, .load 30 (.tmp 71), 30, "law.go:257", #[⟨5, .data⟩], none⟩) rfl ?_
      try simp only [sxLX]
      refine wpAnyH_ready (rs := [7]) (by kernel_rfl) (by simp) ?_
      refine AllReadyH.cons (o := ⟨some 73, .call { callee := .value (.func 35), args := #[.tmp 67, .tmp 72], argTypes := #[30, 30] }, 35, "law.go:257", #[⟨1, .data⟩, ⟨6, .data⟩], none⟩) rfl (fun K hK => ?_) AllReadyH.nil
      go_simp
      go_at_call 35
      refine (HG2.out _ (below_drewN (Below.refl wr.heap.size wr) 1)).mono ?_
      rintro e w' ⟨rfl, hb⟩
      have K5 := Lib.hid ((KP.out.go (below_drewN (Below.refl wr.heap.size wr) 1)).go hb)
      try go_wp2_with fail
      refine hK.out _ _ (Pn13.go ‹_› hb) (fun hHeld2 => ?_)
      clear hK K hHeld hb
      have hHeld := hHeld2; clear hHeld2
      try simp only [sxLX]
      refine tkLX (i := 8) (oi := ⟨some 65, .move (.tmp 73), 35, "law.go:257", #[⟨7, .data⟩], none⟩) rfl ?_
      try simp only [sxLX]
      refine tkLX (i := 9) (oi := ⟨some 74, .extract (.tmp 65) 0, 3, "law.go:257", #[⟨8, .data⟩], none⟩) rfl ?_
      try simp only [sxLX]
      refine tkLX (i := 10) (oi := ⟨some 75, .extract (.tmp 65) 1, 4, "law.go:257", #[⟨8, .data⟩, ⟨11, .gcOnly .lateStores⟩], none⟩) rfl ?_
      try simp only [sxLX]
      refine tkLX (i := 11) (oi := ⟨some 13, .assign (.tmp 74), 3, "law.go:257", #[⟨9, .data⟩, ⟨7, .chain⟩, ⟨0, .phase⟩, ⟨1, .phase⟩, ⟨2, .phase⟩, ⟨3, .phase⟩, ⟨4, .phase⟩, ⟨5, .phase⟩, ⟨6, .phase⟩, ⟨7, .phase⟩, ⟨8, .phase⟩, ⟨9, .phase⟩, ⟨10, .textOnly .lateStores⟩], none⟩) rfl ?_
      try simp only [sxLX]
      refine tkLX (i := 12) (oi := ⟨some 14, .assign (.tmp 75), 4, "law.go:257", #[⟨10, .data⟩, ⟨11, .chain⟩, ⟨0, .phase⟩, ⟨1, .phase⟩, ⟨2, .phase⟩, ⟨3, .phase⟩, ⟨4, .phase⟩, ⟨5, .phase⟩, ⟨6, .phase⟩, ⟨7, .phase⟩, ⟨8, .phase⟩, ⟨9, .phase⟩, ⟨10, .phase⟩, ⟨11, .phase⟩], none⟩) rfl ?_
      try simp only [sxLX]
      refine wpAnyH_done (by kernel_rfl) ?_ _
      obtain ⟨x0, x2, q2, hbl, hgl⟩ := K5.out.nth 0 rfl
      cases gok
      ·clear HH2
       go_wp2_with fail
       go_roundw
       case rel => exact ⟨j2 + 1, by omega, by go_num, Lib.hid K5.out.tail⟩
       case measure => simp [intOf]; omega
      by_cases d1 : gv ≤ d
      case neg =>
       have f1 : decide (gv ≤ d) = false := decide_eq_false d1
       clear HH2
       go_wp2_with fail
       go_roundw
       case rel => exact ⟨j2 + 1, by omega, by go_num, Lib.hid K5.out.tail⟩
       case measure => simp [intOf]; omega
      by_cases d2 : id = x
      case pos =>
       have f1 : decide (gv ≤ d) = true := decide_eq_true d1
       have f2 : (id == x) = true := by simpa using d2
       have f3 : (id != x) = false := by simpa using d2
       clear HH2 d2
       go_wp2_with fail
       go_roundw
       case rel => exact ⟨j2 + 1, by omega, by go_num, Lib.hid K5.out.tail⟩
       case measure => simp [intOf]; omega
      have f1 : decide (gv ≤ d) = true := decide_eq_true d1
      have f2 : (id == x) = false := by simpa using d2
      have f3 : (id != x) = true := by simpa using d2
      have HIN := Lib.hid (HH2.out rfl d1 d2)
      clear HH2
      go_wp2_with fail
      refine (HWI.out id _ (K5.out.nth 1 rfl)).mono ?_
      rintro e w6 ⟨rfl, hb6⟩
      rw [decide_eq_true HIN.out]
      replace K5 := Lib.hid (K5.out.go hb6)
      clear hb6
      go_wp2_with fail
      go_roundw
      case rel => exact ⟨j2 + 1, by omega, by go_num, Lib.hid K5.out.tail⟩
      case measure => simp [intOf]; omega
     ·have s2 : ¬ (j2 : Int) < (L.length : Int) := by omega
      clear HHS
      go_wp2_with fail
      have HSO : Hid (∀ m (hm : m < S.length), L.any (fun u => decide (u.id = S[m]) && (gapM t.ar u.ar).2 && decide ((gapM t.ar u.ar).1 ≤ d)) = true) := Lib.hid (fun m hm => by
       obtain ⟨_, u, hu, e1, e2, e3⟩ := HIS.out _ (List.getElem_mem hm)
       exact List.any_eq_true.2 ⟨u, hu, by rw [decide_eq_true e1, e2, decide_eq_true e3]; rfl⟩)
      have HNE : Hid (∀ m (hm : m < S.length), S[m] ≠ x) := Lib.hid (fun m hm => (HIS.out _ (List.getElem_mem hm)).1)
      clear HIS
      go_loopw [15] (fun i wr => ∃ (m : Nat), m ≤ S.length ∧ i = .int .i64 m ∧ Hid (Kp [fun w' => NIn w' An cn S, fun w' => LtAt w' g t p, fun w' => LtI w' t p, fun w' => LtIn w' A cap L] w wr)) (fun i _ => S.length - (intOf i).toNat)
      case atStart => exact ⟨0, Nat.zero_le _, rfl, K⟩
      case round =>
       clear K
       obtain ⟨m, hm, rfl, K⟩ := hrel
       by_cases hlt3 : m < S.length
       ·have n0 : (0 : Int) ≤ (m : Int) := by omega
        have n1 : (m : Int) < (S.length : Int) := by omega
        have HE := Lib.hid (K.out.nth 0 rfl)
        obtain ⟨nb, no, rfl, hnb, hnc⟩ := HE.out.row (by omega)
        have hz := hnc m hlt3
        have HS1 := Lib.hid (HSO.out m hlt3)
        have HS2 := Lib.hid (HNE.out m hlt3)
        have HS3 := Lib.hid (fun hl => HBK.out S[m] hl (List.getElem_mem hlt3))
        have HS4 := Lib.hid (HMO.out S[m] (List.getElem_mem hlt3))
        generalize S[m] = sm at *
        replace K := Lib.hid (K.out.add (Below.refl _ _) (PC1.fut (show PC1 nb (no + m) sm _ from ⟨hz, hnb⟩)))
        clear HE hnc hz hnb
        go_wp2_with fail
        go_loopw [16, 17] (fun v i wr => ∃ (q : Nat), q ≤ L.length ∧ i = .int .i64 q ∧ v = .bool ((L.take q).any fun u => decide (u.id = sm) && (gapM t.ar u.ar).2 && decide ((gapM t.ar u.ar).1 ≤ d)) ∧ Hid (Kp [PC1 nb (no + m) sm, fun w' => NIn w' (some ⟨nb, no, none⟩) cn S, fun w' => LtAt w' g t p, fun w' => LtI w' t p, fun w' => LtIn w' A cap L] w wr)) (fun _ i _ => L.length - (intOf i).toNat)
        case atStart => exact ⟨0, Nat.zero_le _, rfl, rfl, K⟩
        case round =>
         clear K
         obtain ⟨q, hq, rfl, rfl, K⟩ := hrel
         by_cases hlt4 : q < L.length
         case pos =>
          obtain ⟨b, o, p2, rfl, hb, hc, hi⟩ := (K.out.nth 4 rfl).at_ hlt4
          obtain ⟨x0, x1, x2, x3⟩ := hc
          have htb := K.out.nth 2 rfl
          obtain ⟨q0, q1, q2, q3⟩ := htb.c
          have hgl := htb.lt
          have HIU := Lib.hid hi.ar.fut
          have n0 : (0 : Int) ≤ (q : Int) := by omega
          have n1 : (q : Int) < (L.length : Int) := by omega
          have HN : Hid ((L.take (q + 1)).any (fun u => decide (u.id = sm) && (gapM t.ar u.ar).2 && decide ((gapM t.ar u.ar).1 ≤ d)) = ((L.take q).any (fun u => decide (u.id = sm) && (gapM t.ar u.ar).2 && decide ((gapM t.ar u.ar).1 ≤ d)) || (decide (L[q].id = sm) && (gapM t.ar L[q].ar).2 && decide ((gapM t.ar L[q].ar).1 ≤ d)))) := Lib.hid (by
           rw [List.take_succ_eq_append_getElem hlt4, List.any_append]
           simp)
          clear hi htb
          generalize L[q] = u at *
          obtain ⟨id, ow, ar, fr⟩ := u
          simp only at x0 x1 x2 x3 HIU HN
          have HPN : Hid (Pn13 b (o + q * 4) g id (.slice p2.A ar.length p2.c) (.slice p.A t.ar.length p.c) wr) := Lib.hid ⟨x0, x2, q2, hb, hgl⟩
          have KP := Lib.hid (K.out.add (Below.refl _ _) HPN.out.fut)
          have HG2 := Lib.hid (fun w' (hb : Below wr.heap.size wr w') => HGP.out p.A p.c p2.A p2.c t.ar ar w' ((K.out.nth 3 rfl).ar.below hb) (HIU.out w' hb))
          clear x0 x1 x2 x3 q0 q1 q2 q3 hb hgl K HIU
          generalize gapM t.ar ar = gm at *
          obtain ⟨gv, gok⟩ := gm
          simp only at HN
          generalize (L.take q).any (fun u => decide (u.id = sm) && (gapM t.ar u.ar).2 && decide ((gapM t.ar u.ar).1 ≤ d)) = bv at *
          go_wp2_with fail
          refine wp_region_held_drew (S := fun w' => w'.cell? ⟨b, o + q * 4, none⟩ = some (.int .i64 id) ∧ w'.cell? ⟨b, o + q * 4 + 2, none⟩ = some (.slice p2.A ar.length p2.c) ∧ w'.cell? ⟨g, 0 + 2, none⟩ = some (.slice p.A t.ar.length p.c) ∧ b < w'.heap.size ∧ g < w'.heap.size) (by kernel_rfl) ?_ (fun hHeld => ?_)
          ·exact HPN.out.go (below_drewN (Below.refl _ _) 1)
          refine tkLX (i := 0) (oi := ⟨some 114, .fieldAddr 40 (.tmp 8) 2, 0, "law.go:265", #[], none⟩) rfl ?_
          try simp only [sxLX]
          refine tkLX (i := 1) (oi := ⟨some 115, .load 30 (.tmp 114), 30, "law.go:265", #[⟨0, .data⟩], none⟩) rfl ?_
          try simp only [sxLX]
          refine tkLX (i := 2) (oi := ⟨some 116, .move (.tmp 0), 22, "law.go:265", #[], none⟩) rfl ?_
          try simp only [sxLX]
          refine tkLX (i := 3) (oi := ⟨some 117, .move (.tmp 17), 3, "law.go:265", #[], none⟩) rfl ?_
          try simp only [sxLX]
          refine tkLX (i := 4) (oi := ⟨some 118, .indexAddr 22 (.tmp 116) (.tmp 117), 0, "law.go:265", #[⟨2, .data⟩, ⟨3, .data⟩], none⟩) rfl ?_
          try simp only [sxLX]
          refine tkLX (i := 5) (oi := ⟨some 119, .fieldAddr 40 (.tmp 118) 2, 0, "law.go:265", #[⟨4, .data⟩], none⟩) rfl ?_
          try simp only [sxLX]
          refine tkLX (i := 6) (oi := ⟨some 120, .load 30 (.tmp 119), 30, "law.go:265", #[⟨5, .data⟩], none⟩) rfl ?_
          try simp only [sxLX]
          refine wpAnyH_ready (rs := [7]) (by kernel_rfl) (by simp) ?_
          refine AllReadyH.cons (o := ⟨some 121, .call { callee := .value (.func 35), args := #[.tmp 115, .tmp 120], argTypes := #[30, 30] }, 35, "law.go:265", #[⟨1, .data⟩, ⟨6, .data⟩], none⟩) rfl (fun K hK => ?_) AllReadyH.nil
          go_simp
          go_at_call 35
          refine (HG2.out _ (below_drewN (Below.refl wr.heap.size wr) 1)).mono ?_
          rintro e w' ⟨rfl, hb⟩
          have K5 := Lib.hid ((KP.out.go (below_drewN (Below.refl wr.heap.size wr) 1)).go hb)
          try go_wp2_with fail
          refine hK.out _ _ (Pn13.go ‹_› hb) (fun hHeld2 => ?_)
          clear hK K hHeld hb
          have hHeld := hHeld2; clear hHeld2
          try simp only [sxLX]
          refine tkLX (i := 8) (oi := ⟨some 113, .move (.tmp 121), 35, "law.go:265", #[⟨7, .data⟩], none⟩) rfl ?_
          try simp only [sxLX]
          refine tkLX (i := 9) (oi := ⟨some 122, .extract (.tmp 113) 0, 3, "law.go:265", #[⟨8, .data⟩], none⟩) rfl ?_
          try simp only [sxLX]
          refine tkLX (i := 10) (oi := ⟨some 123, .extract (.tmp 113) 1, 4, "law.go:265", #[⟨8, .data⟩, ⟨11, .gcOnly .lateStores⟩], none⟩) rfl ?_
          try simp only [sxLX]
          refine tkLX (i := 11) (oi := ⟨some 18, .assign (.tmp 122), 3, "law.go:265", #[⟨9, .data⟩, ⟨7, .chain⟩, ⟨0, .phase⟩, ⟨1, .phase⟩, ⟨2, .phase⟩, ⟨3, .phase⟩, ⟨4, .phase⟩, ⟨5, .phase⟩, ⟨6, .phase⟩, ⟨7, .phase⟩, ⟨8, .phase⟩, ⟨9, .phase⟩, ⟨10, .textOnly .lateStores⟩], none⟩) rfl ?_
          try simp only [sxLX]
          refine tkLX (i := 12) (oi := ⟨some 19, .assign (.tmp 123), 4, "law.go:265", #[⟨10, .data⟩, ⟨11, .chain⟩, ⟨0, .phase⟩, ⟨1, .phase⟩, ⟨2, .phase⟩, ⟨3, .phase⟩, ⟨4, .phase⟩, ⟨5, .phase⟩, ⟨6, .phase⟩, ⟨7, .phase⟩, ⟨8, .phase⟩, ⟨9, .phase⟩, ⟨10, .phase⟩, ⟨11, .phase⟩], none⟩) rfl ?_
          try simp only [sxLX]
          refine wpAnyH_done (by kernel_rfl) ?_ _
          obtain ⟨x0, x2, q2, hbl, hgl⟩ := K5.out.nth 0 rfl
          obtain ⟨z0, zl⟩ := K5.out.nth 1 rfl
          have n2 : (0 : Int) ≤ (m : Int) := by omega
          have n3 : (m : Int) < (S.length : Int) := by omega
          cases bv
          case true =>
           have HV : Hid ((L.take (q + 1)).any (fun u => decide (u.id = sm) && (gapM t.ar u.ar).2 && decide ((gapM t.ar u.ar).1 ≤ d)) = true) := Lib.hid (by rw [HN.out]; simp [*])
           clear HN
           go_wp2_with fail
           go_quiet (fail)
           go_wp2_with fail
           go_roundw
           case rel => exact ⟨q + 1, by omega, by go_num, by rw [HV.out], Lib.hid ((K5.out.tail).go (below_drewN (Below.refl _ _) _))⟩
           case measure => simp [intOf]; omega
          by_cases c1 : id = sm
          case neg =>
           have f1 : (id == sm) = false := by simpa using c1
           have HV : Hid ((L.take (q + 1)).any (fun u => decide (u.id = sm) && (gapM t.ar u.ar).2 && decide ((gapM t.ar u.ar).1 ≤ d)) = false) := Lib.hid (by rw [HN.out]; simp [*])
           clear HN
           go_wp2_with fail
           go_quiet (fail)
           go_wp2_with fail
           go_roundw
           case rel => exact ⟨q + 1, by omega, by go_num, by rw [HV.out], Lib.hid ((K5.out.tail).go (below_drewN (Below.refl _ _) _))⟩
           case measure => simp [intOf]; omega
          have f1 : (id == sm) = true := by simpa using c1
          cases gok
          case false =>
           have HV : Hid ((L.take (q + 1)).any (fun u => decide (u.id = sm) && (gapM t.ar u.ar).2 && decide ((gapM t.ar u.ar).1 ≤ d)) = false) := Lib.hid (by rw [HN.out]; simp [*])
           clear HN
           go_wp2_with fail
           go_quiet (fail)
           go_wp2_with fail
           go_roundw
           case rel => exact ⟨q + 1, by omega, by go_num, by rw [HV.out], Lib.hid ((K5.out.tail).go (below_drewN (Below.refl _ _) _))⟩
           case measure => simp [intOf]; omega
          by_cases c2 : gv ≤ d
          case neg =>
           have f2 : decide (gv ≤ d) = false := decide_eq_false c2
           have HV : Hid ((L.take (q + 1)).any (fun u => decide (u.id = sm) && (gapM t.ar u.ar).2 && decide ((gapM t.ar u.ar).1 ≤ d)) = false) := Lib.hid (by rw [HN.out]; simp [*])
           clear HN
           go_wp2_with fail
           go_quiet (fail)
           go_wp2_with fail
           go_roundw
           case rel => exact ⟨q + 1, by omega, by go_num, by rw [HV.out], Lib.hid ((K5.out.tail).go (below_drewN (Below.refl _ _) _))⟩
           case measure => simp [intOf]; omega
          have f2 : decide (gv ≤ d) = true := decide_eq_true c2
          have HV : Hid ((L.take (q + 1)).any (fun u => decide (u.id = sm) && (gapM t.ar u.ar).2 && decide ((gapM t.ar u.ar).1 ≤ d)) = true) := Lib.hid (by rw [HN.out]; simp [*])
          clear HN
          go_wp2_with fail
          go_quiet (fail)
          go_wp2_with fail
          go_roundw
          case rel => exact ⟨q + 1, by omega, by go_num, by rw [HV.out], Lib.hid ((K5.out.tail).go (below_drewN (Below.refl _ _) _))⟩
          case measure => simp [intOf]; omega
         have s4 : ¬ (q : Int) < (L.length : Int) := by omega
         obtain rfl : q = L.length := by omega
         rw [List.take_length, HS1.out]
         have HRI := Lib.hid (fun w' (h : LtIn w' A cap L) => right13_any A cap L w' h)
         have HN1 := Lib.hid (fun w' (h : LtIn w' A cap L) => HNR.out sm d w' h)
         have HN2 := Lib.hid (fun (hd1 : d + 1 ≤ 9223372036854775807) w' (h : LtIn w' A cap L) => HNR.out x (d + 1) w' h)
         have HW1 := Lib.hid (fun B c w' (h : NIn w' B c (nearS L sm d)) => win_any B c (nearS L sm d) x w' h)
         have HW2 := Lib.hid (fun B c w' (h : NIn w' B c (nearS L x (d + 1))) => win_any B c (nearS L x (d + 1)) sm w' h)
         have HS5 : Hid (landB L = true → x ∈ nearS L sm d) := Lib.hid (fun h => HS3.out ((landB_iff L).1 h))
         generalize nearS L x (d + 1) = S2 at *
         generalize nearS L sm d = S1 at *
         rw [decide_eq_true HS4.out] at HW2
         generalize landB L = lb at *
         have e0 : (sm == x) = false := by simpa using HS2.out
         obtain ⟨z0, zl⟩ := K.out.nth 0 rfl
         have n2 : (0 : Int) ≤ (m : Int) := by omega
         have n3 : (m : Int) < (S.length : Int) := by omega
         have HPC : Hid (PC1 nb (no + m) sm wr) := Lib.hid ⟨z0, zl⟩
         have KP := K
         clear HS1 HS2 HS3 HS4 z0 zl K
         go_wp2_with fail
         refine wp_region_held_drew (S := fun w' => w'.cell? ⟨nb, no + m, none⟩ = some (.int .i64 sm) ∧ nb < w'.heap.size) (by kernel_rfl) ?_ (fun hHeld => ?_)
         ·exact HPC.out.go (below_drewN (Below.refl _ _) 1)
         have K5 := Lib.hid (KP.out.go (below_drewN (Below.refl wr.heap.size wr) 1))
         clear KP
         refine tkLX (i := 0) (oi := ⟨some 145, .move (.tmp 16), 4, "law.go:268", #[], none⟩) rfl ?_
         try simp only [sxLX]
         refine tkLX (i := 1) (oi := ⟨some 146, .unOp .not 4 (.tmp 145), 4, "law.go:268", #[⟨0, .data⟩], none⟩) rfl ?_
         try simp only [sxLX]
         refine tkLX (i := 2) (oi := ⟨some 147, .move (.tmp 146), 4, "law.go:268", #[⟨1, .data⟩], none⟩) rfl ?_
         try simp only [sxLX]
         refine tkLX (i := 3) (oi := ⟨some 148, .move (.tmp 10), 31, "law.go:268", #[⟨2, .guard⟩], some (2, false)⟩) rfl ?_
         try simp only [sxLX]
         refine tkLX (i := 4) (oi := ⟨some 149, .move (.tmp 15), 3, "law.go:268", #[⟨2, .guard⟩], some (2, false)⟩) rfl ?_
         try simp only [sxLX]
         refine tkLX (i := 5) (oi := ⟨some 150, .indexAddr 31 (.tmp 148) (.tmp 149), 0, "law.go:268", #[⟨3, .data⟩, ⟨4, .data⟩, ⟨2, .guard⟩], some (2, false)⟩) rfl ?_
         try simp only [sxLX]
         refine tkLX (i := 6) (oi := ⟨some 151, .load 3 (.tmp 150), 3, "law.go:268", #[⟨5, .data⟩, ⟨2, .guard⟩], some (2, false)⟩) rfl ?_
         try simp only [sxLX]
         refine tkLX (i := 7) (oi := ⟨some 152, .move (.tmp 1), 3, "law.go:268", #[⟨2, .guard⟩], some (2, false)⟩) rfl ?_
         try simp only [sxLX]
         refine tkLX (i := 8) (oi := ⟨some 153, .binOp .eql 3 (.tmp 151) (.tmp 152) 3, 4, "law.go:268", #[⟨6, .data⟩, ⟨7, .data⟩, ⟨2, .guard⟩], some (2, false)⟩) rfl ?_
         try simp only [sxLX]
         refine tkLX (i := 9) (oi := ⟨some 154, .pick (.tmp 147) (.const (.bool true)) (.tmp 153), 4, "law.go:268", #[⟨2, .data⟩, ⟨8, .data⟩], none⟩) rfl ?_
         try simp only [sxLX]
         refine tkLX (i := 10) (oi := ⟨some 155, .move (.tmp 154), 4, "law.go:268", #[⟨9, .data⟩, ⟨2, .chain⟩], none⟩) rfl ?_
         try simp only [sxLX]
         refine tkLX (i := 11) (oi := ⟨some 156, .move (.tmp 0), 22, "law.go:268", #[⟨10, .guard⟩], some (10, false)⟩) rfl ?_
         try simp only [sxLX]
         refine wpAnyH_ready (rs := [12]) (by kernel_rfl) (by simp) ?_
         refine AllReadyH.cons (o := ⟨some 157, .call { callee := .value (.func 17), args := #[.tmp 156], argTypes := #[22] }, 4, "law.go:268", #[⟨11, .data⟩, ⟨10, .chain⟩, ⟨10, .guard⟩], some (10, false)⟩) rfl (fun Kx hKx => ?_) AllReadyH.nil
         go_simp
         go_at_call 17
         refine (HRI.out _ (K5.out.nth 4 rfl)).mono ?_
         rintro e w' ⟨rfl, hb⟩
         replace K5 := Lib.hid (K5.out.go hb)
         try go_wp2_with fail
         refine hKx.out _ _ (PC1.go ‹_› hb) (fun hHeld2 => ?_)
         clear hKx Kx hHeld hb
         have hHeld := hHeld2; clear hHeld2
         try simp only [sxLX]
         refine tkLX (i := 13) (oi := ⟨some 158, .move (.tmp 157), 4, "law.go:268", #[⟨12, .data⟩, ⟨12, .chain⟩, ⟨10, .guard⟩], some (10, false)⟩) rfl ?_
         try simp only [sxLX]
         cases lb
         case false =>
          refine tuLX (i := 14) (oi := ⟨some 159, .move (.tmp 0), 22, "law.go:268", #[⟨13, .guard⟩], some (13, true)⟩) rfl ?_
          try simp only [sxLX]
          refine tuLX (i := 15) (oi := ⟨some 160, .move (.tmp 10), 31, "law.go:268", #[⟨13, .guard⟩], some (13, true)⟩) rfl ?_
          try simp only [sxLX]
          refine tuLX (i := 16) (oi := ⟨some 161, .move (.tmp 15), 3, "law.go:268", #[⟨13, .guard⟩], some (13, true)⟩) rfl ?_
          try simp only [sxLX]
          refine tuLX (i := 17) (oi := ⟨some 162, .indexAddr 31 (.tmp 160) (.tmp 161), 0, "law.go:268", #[⟨15, .data⟩, ⟨16, .data⟩, ⟨13, .guard⟩], some (13, true)⟩) rfl ?_
          try simp only [sxLX]
          refine tuLX (i := 18) (oi := ⟨some 163, .load 3 (.tmp 162), 3, "law.go:268", #[⟨17, .data⟩, ⟨13, .guard⟩], some (13, true)⟩) rfl ?_
          try simp only [sxLX]
          refine tuLX (i := 19) (oi := ⟨some 164, .move (.tmp 2), 3, "law.go:268", #[⟨13, .guard⟩], some (13, true)⟩) rfl ?_
          try simp only [sxLX]
          refine tuLX (i := 20) (oi := ⟨some 165, .call { callee := .value (.func 20), args := #[.tmp 159, .tmp 163, .tmp 164], argTypes := #[22, 3, 3] }, 31, "law.go:268", #[⟨14, .data⟩, ⟨18, .data⟩, ⟨19, .data⟩, ⟨13, .chain⟩, ⟨13, .guard⟩], some (13, true)⟩) rfl ?_
          try simp only [sxLX]
          refine tuLX (i := 21) (oi := ⟨some 166, .move (.tmp 1), 3, "law.go:268", #[⟨13, .guard⟩], some (13, true)⟩) rfl ?_
          try simp only [sxLX]
          refine tuLX (i := 22) (oi := ⟨some 167, .call { callee := .value (.func 29), args := #[.tmp 165, .tmp 166], argTypes := #[31, 3] }, 4, "law.go:268", #[⟨20, .data⟩, ⟨21, .data⟩, ⟨20, .chain⟩, ⟨13, .guard⟩], some (13, true)⟩) rfl ?_
          try simp only [sxLX]
          refine tuLX (i := 23) (oi := ⟨some 168, .unOp .not 4 (.tmp 167), 4, "law.go:268", #[⟨22, .data⟩, ⟨13, .guard⟩], some (13, true)⟩) rfl ?_
          try simp only [sxLX]
          refine tkLX (i := 24) (oi := ⟨some 169, .pick (.tmp 158) (.tmp 168) (.const (.bool false)), 4, "law.go:268", #[⟨13, .data⟩, ⟨23, .data⟩, ⟨10, .guard⟩], some (10, false)⟩) rfl ?_
          try simp only [sxLX]
          refine tkLX (i := 25) (oi := ⟨some 170, .pick (.tmp 155) (.const (.bool true)) (.tmp 169), 4, "law.go:268", #[⟨10, .data⟩, ⟨24, .data⟩], none⟩) rfl ?_
          try simp only [sxLX]
          refine tkLX (i := 26) (oi := ⟨some 171, .move (.tmp 170), 4, "law.go:268", #[⟨25, .data⟩, ⟨22, .chain⟩], none⟩) rfl ?_
          try simp only [sxLX]
          by_cases hdl : d < 1000000
          case neg =>
           have e9 : decide (d < 1000000) = false := decide_eq_false hdl
           refine tkLX (i := 27) (oi := ⟨some 172, .move (.tmp 2), 3, "law.go:268", #[⟨26, .guard⟩], some (26, false)⟩) rfl ?_
           try simp only [sxLX]
           refine tkLX (i := 28) (oi := ⟨some 173, .binOp .lss 3 (.tmp 172) (.const (.int .i64 1000000)) 3, 4, "law.go:268", #[⟨27, .data⟩, ⟨26, .guard⟩], some (26, false)⟩) rfl ?_
           try simp only [sxLX]
           refine tkLX (i := 29) (oi := ⟨some 174, .move (.tmp 173), 4, "law.go:268", #[⟨28, .data⟩, ⟨26, .chain⟩, ⟨26, .guard⟩], some (26, false)⟩) rfl ?_
           try simp only [sxLX]
           refine tuLX (i := 30) (oi := ⟨some 175, .move (.tmp 0), 22, "law.go:268", #[⟨29, .guard⟩], some (29, true)⟩) rfl ?_
           try simp only [sxLX]
           refine tuLX (i := 31) (oi := ⟨some 176, .move (.tmp 1), 3, "law.go:268", #[⟨29, .guard⟩], some (29, true)⟩) rfl ?_
           try simp only [sxLX]
           refine tuLX (i := 32) (oi := ⟨some 177, .move (.tmp 2), 3, "law.go:268", #[⟨29, .guard⟩], some (29, true)⟩) rfl ?_
           try simp only [sxLX]
           refine tuLX (i := 33) (oi := ⟨some 178, .binOp .add 3 (.tmp 177) (.const (.int .i64 1)) 3, 3, "law.go:268", #[⟨32, .data⟩, ⟨29, .guard⟩], some (29, true)⟩) rfl ?_
           try simp only [sxLX]
           refine tuLX (i := 34) (oi := ⟨some 179, .call { callee := .value (.func 20), args := #[.tmp 175, .tmp 176, .tmp 178], argTypes := #[22, 3, 3] }, 31, "law.go:268", #[⟨30, .data⟩, ⟨31, .data⟩, ⟨33, .data⟩, ⟨29, .chain⟩, ⟨29, .guard⟩], some (29, true)⟩) rfl ?_
           try simp only [sxLX]
           refine tuLX (i := 35) (oi := ⟨some 180, .move (.tmp 10), 31, "law.go:268", #[⟨29, .guard⟩], some (29, true)⟩) rfl ?_
           try simp only [sxLX]
           refine tuLX (i := 36) (oi := ⟨some 181, .move (.tmp 15), 3, "law.go:268", #[⟨29, .guard⟩], some (29, true)⟩) rfl ?_
           try simp only [sxLX]
           refine tuLX (i := 37) (oi := ⟨some 182, .indexAddr 31 (.tmp 180) (.tmp 181), 0, "law.go:268", #[⟨35, .data⟩, ⟨36, .data⟩, ⟨29, .guard⟩], some (29, true)⟩) rfl ?_
           try simp only [sxLX]
           refine tuLX (i := 38) (oi := ⟨some 183, .load 3 (.tmp 182), 3, "law.go:268", #[⟨37, .data⟩, ⟨29, .guard⟩], some (29, true)⟩) rfl ?_
           try simp only [sxLX]
           refine tuLX (i := 39) (oi := ⟨some 184, .call { callee := .value (.func 29), args := #[.tmp 179, .tmp 183], argTypes := #[31, 3] }, 4, "law.go:268", #[⟨34, .data⟩, ⟨38, .data⟩, ⟨34, .chain⟩, ⟨29, .guard⟩], some (29, true)⟩) rfl ?_
           try simp only [sxLX]
           refine tuLX (i := 40) (oi := ⟨some 185, .unOp .not 4 (.tmp 184), 4, "law.go:268", #[⟨39, .data⟩, ⟨29, .guard⟩], some (29, true)⟩) rfl ?_
           try simp only [sxLX]
           refine tkLX (i := 41) (oi := ⟨some 186, .pick (.tmp 174) (.tmp 185) (.const (.bool false)), 4, "law.go:268", #[⟨29, .data⟩, ⟨40, .data⟩, ⟨26, .guard⟩], some (26, false)⟩) rfl ?_
           try simp only [sxLX]
           refine tkLX (i := 42) (oi := ⟨some 187, .pick (.tmp 171) (.const (.bool true)) (.tmp 186), 4, "law.go:268", #[⟨26, .data⟩, ⟨41, .data⟩], none⟩) rfl ?_
           try simp only [sxLX]
           refine wpAnyH_done (by kernel_rfl) ?_ _
           go_wp2_with fail
           go_roundw
           case rel => exact ⟨m + 1, by omega, by go_num, Lib.hid K5.out.tail⟩
           case measure => simp [intOf]; omega
          have e9 : decide (d < 1000000) = true := decide_eq_true hdl
          have hwr : IntKind.i64.wrap (d + 1) = d + 1 := wrap_lx (by omega)
          refine tkLX (i := 27) (oi := ⟨some 172, .move (.tmp 2), 3, "law.go:268", #[⟨26, .guard⟩], some (26, false)⟩) rfl ?_
          try simp only [sxLX]
          refine tkLX (i := 28) (oi := ⟨some 173, .binOp .lss 3 (.tmp 172) (.const (.int .i64 1000000)) 3, 4, "law.go:268", #[⟨27, .data⟩, ⟨26, .guard⟩], some (26, false)⟩) rfl ?_
          try simp only [sxLX]
          refine tkLX (i := 29) (oi := ⟨some 174, .move (.tmp 173), 4, "law.go:268", #[⟨28, .data⟩, ⟨26, .chain⟩, ⟨26, .guard⟩], some (26, false)⟩) rfl ?_
          try simp only [sxLX]
          refine tkLX (i := 30) (oi := ⟨some 175, .move (.tmp 0), 22, "law.go:268", #[⟨29, .guard⟩], some (29, true)⟩) rfl ?_
          try simp only [sxLX]
          refine tkLX (i := 31) (oi := ⟨some 176, .move (.tmp 1), 3, "law.go:268", #[⟨29, .guard⟩], some (29, true)⟩) rfl ?_
          try simp only [sxLX]
          refine tkLX (i := 32) (oi := ⟨some 177, .move (.tmp 2), 3, "law.go:268", #[⟨29, .guard⟩], some (29, true)⟩) rfl ?_
          try simp only [sxLX]
          refine tkLX (i := 33) (oi := ⟨some 178, .binOp .add 3 (.tmp 177) (.const (.int .i64 1)) 3, 3, "law.go:268", #[⟨32, .data⟩, ⟨29, .guard⟩], some (29, true)⟩) rfl ?_
          try simp only [sxLX]
          refine tkLX (i := 35) (oi := ⟨some 180, .move (.tmp 10), 31, "law.go:268", #[⟨29, .guard⟩], some (29, true)⟩) rfl ?_
          try simp only [sxLX]
          refine tkLX (i := 36) (oi := ⟨some 181, .move (.tmp 15), 3, "law.go:268", #[⟨29, .guard⟩], some (29, true)⟩) rfl ?_
          try simp only [sxLX]
          refine tkLX (i := 37) (oi := ⟨some 182, .indexAddr 31 (.tmp 180) (.tmp 181), 0, "law.go:268", #[⟨35, .data⟩, ⟨36, .data⟩, ⟨29, .guard⟩], some (29, true)⟩) rfl ?_
          try simp only [sxLX]
          refine tkLX (i := 38) (oi := ⟨some 183, .load 3 (.tmp 182), 3, "law.go:268", #[⟨37, .data⟩, ⟨29, .guard⟩], some (29, true)⟩) rfl ?_
          try simp only [sxLX]
          refine wpAnyH_ready (rs := [34]) (by kernel_rfl) (by simp) ?_
          refine AllReadyH.cons (o := ⟨some 179, .call { callee := .value (.func 20), args := #[.tmp 175, .tmp 176, .tmp 178], argTypes := #[22, 3, 3] }, 31, "law.go:268", #[⟨30, .data⟩, ⟨31, .data⟩, ⟨33, .data⟩, ⟨29, .chain⟩, ⟨29, .guard⟩], some (29, true)⟩) rfl (fun Kx hKx => ?_) AllReadyH.nil
          go_simp
          go_at_call 20
          refine (HN2.out (by omega) _ (K5.out.nth 4 rfl)).mono ?_
          rintro e w' ⟨A2, c2, rfl, hn, hb⟩
          replace K5 := Lib.hid (K5.out.add hb hn.fut)
          try go_wp2_with fail
          refine hKx.out _ _ (PC1.go ‹_› hb) (fun hHeld2 => ?_)
          clear hKx Kx hHeld hb hn
          have hHeld := hHeld2; clear hHeld2
          try simp only [sxLX]
          refine wpAnyH_ready (rs := [39]) (by kernel_rfl) (by simp) ?_
          refine AllReadyH.cons (o := ⟨some 184, .call { callee := .value (.func 29), args := #[.tmp 179, .tmp 183], argTypes := #[31, 3] }, 4, "law.go:268", #[⟨34, .data⟩, ⟨38, .data⟩, ⟨34, .chain⟩, ⟨29, .guard⟩], some (29, true)⟩) rfl (fun Kx hKx => ?_) AllReadyH.nil
          go_simp
          go_at_call 29
          refine (HW2.out _ _ _ (K5.out.nth 0 rfl)).mono ?_
          rintro e w' ⟨rfl, hb⟩
          replace K5 := Lib.hid (K5.out.go hb)
          try go_wp2_with fail
          refine hKx.out _ _ (PC1.go ‹_› hb) (fun hHeld2 => ?_)
          clear hKx Kx hHeld hb
          have hHeld := hHeld2; clear hHeld2
          try simp only [sxLX]
          refine tkLX (i := 40) (oi := ⟨some 185, .unOp .not 4 (.tmp 184), 4, "law.go:268", #[⟨39, .data⟩, ⟨29, .guard⟩], some (29, true)⟩) rfl ?_
          try simp only [sxLX]
          refine tkLX (i := 41) (oi := ⟨some 186, .pick (.tmp 174) (.tmp 185) (.const (.bool false)), 4, "law.go:268", #[⟨29, .data⟩, ⟨40, .data⟩, ⟨26, .guard⟩], some (26, false)⟩) rfl ?_
          try simp only [sxLX]
          refine tkLX (i := 42) (oi := ⟨some 187, .pick (.tmp 171) (.const (.bool true)) (.tmp 186), 4, "law.go:268", #[⟨26, .data⟩, ⟨41, .data⟩], none⟩) rfl ?_
          try simp only [sxLX]
          refine wpAnyH_done (by kernel_rfl) ?_ _
          go_wp2_with fail
          go_roundw
          case rel => exact ⟨m + 1, by omega, by go_num, Lib.hid K5.out.tail.tail⟩
          case measure => simp [intOf]; omega
         have HX := Lib.hid (HS5.out rfl)
         rw [decide_eq_true HX.out] at HW1
         refine tkLX (i := 14) (oi := ⟨some 159, .move (.tmp 0), 22, "law.go:268", #[⟨13, .guard⟩], some (13, true)⟩) rfl ?_
         try simp only [sxLX]
         refine tkLX (i := 15) (oi := ⟨some 160, .move (.tmp 10), 31, "law.go:268", #[⟨13, .guard⟩], some (13, true)⟩) rfl ?_
         try simp only [sxLX]
         refine tkLX (i := 16) (oi := ⟨some 161, .move (.tmp 15), 3, "law.go:268", #[⟨13, .guard⟩], some (13, true)⟩) rfl ?_
         try simp only [sxLX]
         refine tkLX (i := 17) (oi := ⟨some 162, .indexAddr 31 (.tmp 160) (.tmp 161), 0, "law.go:268", #[⟨15, .data⟩, ⟨16, .data⟩, ⟨13, .guard⟩], some (13, true)⟩) rfl ?_
         try simp only [sxLX]
         refine tkLX (i := 18) (oi := ⟨some 163, .load 3 (.tmp 162), 3, "law.go:268", #[⟨17, .data⟩, ⟨13, .guard⟩], some (13, true)⟩) rfl ?_
         try simp only [sxLX]
         refine tkLX (i := 19) (oi := ⟨some 164, .move (.tmp 2), 3, "law.go:268", #[⟨13, .guard⟩], some (13, true)⟩) rfl ?_
         try simp only [sxLX]
         refine tkLX (i := 21) (oi := ⟨some 166, .move (.tmp 1), 3, "law.go:268", #[⟨13, .guard⟩], some (13, true)⟩) rfl ?_
         try simp only [sxLX]
         refine wpAnyH_ready (rs := [20]) (by kernel_rfl) (by simp) ?_
         refine AllReadyH.cons (o := ⟨some 165, .call { callee := .value (.func 20), args := #[.tmp 159, .tmp 163, .tmp 164], argTypes := #[22, 3, 3] }, 31, "law.go:268", #[⟨14, .data⟩, ⟨18, .data⟩, ⟨19, .data⟩, ⟨13, .chain⟩, ⟨13, .guard⟩], some (13, true)⟩) rfl (fun Kx hKx => ?_) AllReadyH.nil
         go_simp
         go_at_call 20
         refine (HN1.out _ (K5.out.nth 4 rfl)).mono ?_
         rintro e w' ⟨A1, c1, rfl, hn, hb⟩
         replace K5 := Lib.hid (K5.out.add hb hn.fut)
         try go_wp2_with fail
         refine hKx.out _ _ (PC1.go ‹_› hb) (fun hHeld2 => ?_)
         clear hKx Kx hHeld hb hn
         have hHeld := hHeld2; clear hHeld2
         try simp only [sxLX]
         refine wpAnyH_ready (rs := [22]) (by kernel_rfl) (by simp) ?_
         refine AllReadyH.cons (o := ⟨some 167, .call { callee := .value (.func 29), args := #[.tmp 165, .tmp 166], argTypes := #[31, 3] }, 4, "law.go:268", #[⟨20, .data⟩, ⟨21, .data⟩, ⟨20, .chain⟩, ⟨13, .guard⟩], some (13, true)⟩) rfl (fun Kx hKx => ?_) AllReadyH.nil
         go_simp
         go_at_call 29
         refine (HW1.out _ _ _ (K5.out.nth 0 rfl)).mono ?_
         rintro e w' ⟨rfl, hb⟩
         replace K5 := Lib.hid (K5.out.go hb)
         try go_wp2_with fail
         refine hKx.out _ _ (PC1.go ‹_› hb) (fun hHeld2 => ?_)
         clear hKx Kx hHeld hb
         have hHeld := hHeld2; clear hHeld2
         try simp only [sxLX]
         refine tkLX (i := 23) (oi := ⟨some 168, .unOp .not 4 (.tmp 167), 4, "law.go:268", #[⟨22, .data⟩, ⟨13, .guard⟩], some (13, true)⟩) rfl ?_
         try simp only [sxLX]
         refine tkLX (i := 24) (oi := ⟨some 169, .pick (.tmp 158) (.tmp 168) (.const (.bool false)), 4, "law.go:268", #[⟨13, .data⟩, ⟨23, .data⟩, ⟨10, .guard⟩], some (10, false)⟩) rfl ?_
         try simp only [sxLX]
         refine tkLX (i := 25) (oi := ⟨some 170, .pick (.tmp 155) (.const (.bool true)) (.tmp 169), 4, "law.go:268", #[⟨10, .data⟩, ⟨24, .data⟩], none⟩) rfl ?_
         try simp only [sxLX]
         refine tkLX (i := 26) (oi := ⟨some 171, .move (.tmp 170), 4, "law.go:268", #[⟨25, .data⟩, ⟨22, .chain⟩], none⟩) rfl ?_
         try simp only [sxLX]
         by_cases hdl : d < 1000000
         case neg =>
          have e9 : decide (d < 1000000) = false := decide_eq_false hdl
          refine tkLX (i := 27) (oi := ⟨some 172, .move (.tmp 2), 3, "law.go:268", #[⟨26, .guard⟩], some (26, false)⟩) rfl ?_
          try simp only [sxLX]
          refine tkLX (i := 28) (oi := ⟨some 173, .binOp .lss 3 (.tmp 172) (.const (.int .i64 1000000)) 3, 4, "law.go:268", #[⟨27, .data⟩, ⟨26, .guard⟩], some (26, false)⟩) rfl ?_
          try simp only [sxLX]
          refine tkLX (i := 29) (oi := ⟨some 174, .move (.tmp 173), 4, "law.go:268", #[⟨28, .data⟩, ⟨26, .chain⟩, ⟨26, .guard⟩], some (26, false)⟩) rfl ?_
          try simp only [sxLX]
          refine tuLX (i := 30) (oi := ⟨some 175, .move (.tmp 0), 22, "law.go:268", #[⟨29, .guard⟩], some (29, true)⟩) rfl ?_
          try simp only [sxLX]
          refine tuLX (i := 31) (oi := ⟨some 176, .move (.tmp 1), 3, "law.go:268", #[⟨29, .guard⟩], some (29, true)⟩) rfl ?_
          try simp only [sxLX]
          refine tuLX (i := 32) (oi := ⟨some 177, .move (.tmp 2), 3, "law.go:268", #[⟨29, .guard⟩], some (29, true)⟩) rfl ?_
          try simp only [sxLX]
          refine tuLX (i := 33) (oi := ⟨some 178, .binOp .add 3 (.tmp 177) (.const (.int .i64 1)) 3, 3, "law.go:268", #[⟨32, .data⟩, ⟨29, .guard⟩], some (29, true)⟩) rfl ?_
          try simp only [sxLX]
          refine tuLX (i := 34) (oi := ⟨some 179, .call { callee := .value (.func 20), args := #[.tmp 175, .tmp 176, .tmp 178], argTypes := #[22, 3, 3] }, 31, "law.go:268", #[⟨30, .data⟩, ⟨31, .data⟩, ⟨33, .data⟩, ⟨29, .chain⟩, ⟨29, .guard⟩], some (29, true)⟩) rfl ?_
          try simp only [sxLX]
          refine tuLX (i := 35) (oi := ⟨some 180, .move (.tmp 10), 31, "law.go:268", #[⟨29, .guard⟩], some (29, true)⟩) rfl ?_
          try simp only [sxLX]
          refine tuLX (i := 36) (oi := ⟨some 181, .move (.tmp 15), 3, "law.go:268", #[⟨29, .guard⟩], some (29, true)⟩) rfl ?_
          try simp only [sxLX]
          refine tuLX (i := 37) (oi := ⟨some 182, .indexAddr 31 (.tmp 180) (.tmp 181), 0, "law.go:268", #[⟨35, .data⟩, ⟨36, .data⟩, ⟨29, .guard⟩], some (29, true)⟩) rfl ?_
          try simp only [sxLX]
          refine tuLX (i := 38) (oi := ⟨some 183, .load 3 (.tmp 182), 3, "law.go:268", #[⟨37, .data⟩, ⟨29, .guard⟩], some (29, true)⟩) rfl ?_
          try simp only [sxLX]
          refine tuLX (i := 39) (oi := ⟨some 184, .call { callee := .value (.func 29), args := #[.tmp 179, .tmp 183], argTypes := #[31, 3] }, 4, "law.go:268", #[⟨34, .data⟩, ⟨38, .data⟩, ⟨34, .chain⟩, ⟨29, .guard⟩], some (29, true)⟩) rfl ?_
          try simp only [sxLX]
          refine tuLX (i := 40) (oi := ⟨some 185, .unOp .not 4 (.tmp 184), 4, "law.go:268", #[⟨39, .data⟩, ⟨29, .guard⟩], some (29, true)⟩) rfl ?_
          try simp only [sxLX]
          refine tkLX (i := 41) (oi := ⟨some 186, .pick (.tmp 174) (.tmp 185) (.const (.bool false)), 4, "law.go:268", #[⟨29, .data⟩, ⟨40, .data⟩, ⟨26, .guard⟩], some (26, false)⟩) rfl ?_
          try simp only [sxLX]
          refine tkLX (i := 42) (oi := ⟨some 187, .pick (.tmp 171) (.const (.bool true)) (.tmp 186), 4, "law.go:268", #[⟨26, .data⟩, ⟨41, .data⟩], none⟩) rfl ?_
          try simp only [sxLX]
          refine wpAnyH_done (by kernel_rfl) ?_ _
          go_wp2_with fail
          go_roundw
          case rel => exact ⟨m + 1, by omega, by go_num, Lib.hid K5.out.tail.tail⟩
          case measure => simp [intOf]; omega
         have e9 : decide (d < 1000000) = true := decide_eq_true hdl
         have hwr : IntKind.i64.wrap (d + 1) = d + 1 := wrap_lx (by omega)
         refine tkLX (i := 27) (oi := ⟨some 172, .move (.tmp 2), 3, "law.go:268", #[⟨26, .guard⟩], some (26, false)⟩) rfl ?_
         try simp only [sxLX]
         refine tkLX (i := 28) (oi := ⟨some 173, .binOp .lss 3 (.tmp 172) (.const (.int .i64 1000000)) 3, 4, "law.go:268", #[⟨27, .data⟩, ⟨26, .guard⟩], some (26, false)⟩) rfl ?_
         try simp only [sxLX]
         refine tkLX (i := 29) (oi := ⟨some 174, .move (.tmp 173), 4, "law.go:268", #[⟨28, .data⟩, ⟨26, .chain⟩, ⟨26, .guard⟩], some (26, false)⟩) rfl ?_
         try simp only [sxLX]
         refine tkLX (i := 30) (oi := ⟨some 175, .move (.tmp 0), 22, "law.go:268", #[⟨29, .guard⟩], some (29, true)⟩) rfl ?_
         try simp only [sxLX]
         refine tkLX (i := 31) (oi := ⟨some 176, .move (.tmp 1), 3, "law.go:268", #[⟨29, .guard⟩], some (29, true)⟩) rfl ?_
         try simp only [sxLX]
         refine tkLX (i := 32) (oi := ⟨some 177, .move (.tmp 2), 3, "law.go:268", #[⟨29, .guard⟩], some (29, true)⟩) rfl ?_
         try simp only [sxLX]
         refine tkLX (i := 33) (oi := ⟨some 178, .binOp .add 3 (.tmp 177) (.const (.int .i64 1)) 3, 3, "law.go:268", #[⟨32, .data⟩, ⟨29, .guard⟩], some (29, true)⟩) rfl ?_
         try simp only [sxLX]
         refine tkLX (i := 35) (oi := ⟨some 180, .move (.tmp 10), 31, "law.go:268", #[⟨29, .guard⟩], some (29, true)⟩) rfl ?_
         try simp only [sxLX]
         refine tkLX (i := 36) (oi := ⟨some 181, .move (.tmp 15), 3, "law.go:268", #[⟨29, .guard⟩], some (29, true)⟩) rfl ?_
         try simp only [sxLX]
         refine tkLX (i := 37) (oi := ⟨some 182, .indexAddr 31 (.tmp 180) (.tmp 181), 0, "law.go:268", #[⟨35, .data⟩, ⟨36, .data⟩, ⟨29, .guard⟩], some (29, true)⟩) rfl ?_
         try simp only [sxLX]
         refine tkLX (i := 38) (oi := ⟨some 183, .load 3 (.tmp 182), 3, "law.go:268", #[⟨37, .data⟩, ⟨29, .guard⟩], some (29, true)⟩) rfl ?_
         try simp only [sxLX]
         refine wpAnyH_ready (rs := [34]) (by kernel_rfl) (by simp) ?_
         refine AllReadyH.cons (o := ⟨some 179, .call { callee := .value (.func 20), args := #[.tmp 175, .tmp 176, .tmp 178], argTypes := #[22, 3, 3] }, 31, "law.go:268", #[⟨30, .data⟩, ⟨31, .data⟩, ⟨33, .data⟩, ⟨29, .chain⟩, ⟨29, .guard⟩], some (29, true)⟩) rfl (fun Kx hKx => ?_) AllReadyH.nil
         go_simp
         go_at_call 20
         refine (HN2.out (by omega) _ (K5.out.nth 5 rfl)).mono ?_
         rintro e w' ⟨A2, c2, rfl, hn, hb⟩
         replace K5 := Lib.hid (K5.out.add hb hn.fut)
         try go_wp2_with fail
         refine hKx.out _ _ (PC1.go ‹_› hb) (fun hHeld2 => ?_)
         clear hKx Kx hHeld hb hn
         have hHeld := hHeld2; clear hHeld2
         try simp only [sxLX]
         refine wpAnyH_ready (rs := [39]) (by kernel_rfl) (by simp) ?_
         refine AllReadyH.cons (o := ⟨some 184, .call { callee := .value (.func 29), args := #[.tmp 179, .tmp 183], argTypes := #[31, 3] }, 4, "law.go:268", #[⟨34, .data⟩, ⟨38, .data⟩, ⟨34, .chain⟩, ⟨29, .guard⟩], some (29, true)⟩) rfl (fun Kx hKx => ?_) AllReadyH.nil
         go_simp
         go_at_call 29
         refine (HW2.out _ _ _ (K5.out.nth 0 rfl)).mono ?_
         rintro e w' ⟨rfl, hb⟩
         replace K5 := Lib.hid (K5.out.go hb)
         try go_wp2_with fail
         refine hKx.out _ _ (PC1.go ‹_› hb) (fun hHeld2 => ?_)
         clear hKx Kx hHeld hb
         have hHeld := hHeld2; clear hHeld2
         try simp only [sxLX]
         refine tkLX (i := 40) (oi := ⟨some 185, .unOp .not 4 (.tmp 184), 4, "law.go:268", #[⟨39, .data⟩, ⟨29, .guard⟩], some (29, true)⟩) rfl ?_
         try simp only [sxLX]
         refine tkLX (i := 41) (oi := ⟨some 186, .pick (.tmp 174) (.tmp 185) (.const (.bool false)), 4, "law.go:268", #[⟨29, .data⟩, ⟨40, .data⟩, ⟨26, .guard⟩], some (26, false)⟩) rfl ?_
         try simp only [sxLX]
         refine tkLX (i := 42) (oi := ⟨some 187, .pick (.tmp 171) (.const (.bool true)) (.tmp 186), 4, "law.go:268", #[⟨26, .data⟩, ⟨41, .data⟩], none⟩) rfl ?_
         try simp only [sxLX]
         refine wpAnyH_done (by kernel_rfl) ?_ _
         go_wp2_with fail
         go_roundw
         case rel => exact ⟨m + 1, by omega, by go_num, Lib.hid K5.out.tail.tail.tail⟩
         case measure => simp [intOf]; omega
       ·have s3 : ¬ (m : Int) < (S.length : Int) := by omega
        go_wp2_with fail
        go_ret
        exact ⟨rfl, K.out.2⟩
end Go.Proofs.YtngddecpfhlilaaGreat
