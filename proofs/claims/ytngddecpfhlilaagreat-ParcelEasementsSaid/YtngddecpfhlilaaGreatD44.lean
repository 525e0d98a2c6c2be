/-
  The law ParcelEasements of layer 13.
-/
import Derived.Test.YtngddecpfhlilaaGreatD42
import Derived.Test.YtngddecpfhlilaaGreatD43
import Derived.Test.YtngddecpfhlilaaGreatD25
import Derived.BigQuiet
import Derived.Deep.RegionHeld3
set_option linter.unusedVariables false
set_option maxRecDepth 100000
namespace Go.Proofs.YtngddecpfhlilaaGreat
open Go.RowKit
theorem tkLT {v : Value} {P : Program} {ops : Array Oper} {Q : Exit → Act → World → Prop} {md : Region.Mode} {S : World → Prop} {i : Nat} {oi : Oper} {fuel : Nat} {listed : Array Bool} {a : Act} {w : World} (hi : ops[i]? = some oi) (h : wpAnyH P md ops Q S fuel (listed.setIfInBounds i true) (a.put oi.dst v) w) (hy : ∀ w, S w → (execOp a.eval oi).run P w = .ok (.value v) w := by (intro w hSw; (try dsimp only at hSw); go_simp); try with_reducible rfl) (hs : Region.noSelect ops = true := by kernel_rfl) (hf : Region.free md ops listed i = true := by kernel_rfl) (hr : (Region.ready md ops listed).contains i = true := by kernel_rfl) (hQ : ∀ c a w, Q (.panic c) (a.put oi.dst v) w → Q (.panic c) a w := by exact fun _ _ _ h => h) (hg : Region.wanted oi (yielded ops a.tmps) = true := by rfl) (hS : S w := by assumption) : wpAnyH P md ops Q S (fuel + 1) listed a w :=
 wpAnyH_take hi hs hf hr hQ (Or.inl ⟨hg, hy⟩) hS h
theorem sxLT : (∀ (a : Act) (v : Value), a.put none v = a) ∧ (∀ (a : Act) (d : Tmp) (v : Value), a.put (some d) v = { a with tmps := a.tmps.setIfInBounds d v }) ∧ (∀ {α : Type} (l : List α) (i : Nat) (x : α), l.toArray.setIfInBounds i x = (l.set i x).toArray) ∧ (∀ {α : Type} (l : List α) (x y : α), (x :: l).set 0 y = y :: l) ∧ (∀ {α : Type} (l : List α) (x y : α) (n : Nat), (x :: l).set (n + 1) y = x :: l.set n y) :=
 ⟨fun _ _ => rfl, fun _ _ _ => rfl, fun _ _ _ => List.setIfInBounds_toArray .., fun _ _ _ => rfl, fun _ _ _ _ => rfl⟩
def EsRow0 (w : World) (A : Option Addr) (l : List Es) : Prop := 0 < l.length → ∃ b off, A = some ⟨b, off, none⟩ ∧ b < w.heap.size ∧ ∀ j (h : j < l.length), w.cell? ⟨b, off + j * 3, none⟩ = some (.int .i64 l[j].lot) ∧ w.cell? ⟨b, off + j * 3 + 2, none⟩ = some (.int .i64 l[j].top) ∧ ∃ Aj cj, w.cell? ⟨b, off + j * 3 + 1, none⟩ = some (.slice Aj l[j].ar.length cj) ∧ RRow w Aj l[j].ar ∧ l[j].ar.length ≤ cj ∧ cj ≤ 9223372036854775807
structure EsO (w : World) (A : Option Addr) (cap : Nat) (l : List Es) : Prop where
 row : EsRow0 w A l
 room : l.length ≤ cap
 room2 : cap ≤ 9223372036854775807
theorem EsO.below {w w' : World} {A : Option Addr} {c : Nat} {l : List Es} (h : EsO w A c l) (hb : Below w.heap.size w w') : EsO w' A c l := ⟨fun h0 => by
 obtain ⟨b, off, e, hl, hc⟩ := h.row h0
 refine ⟨b, off, e, Nat.lt_of_lt_of_le hl hb.size, fun j hj => ?_⟩
 obtain ⟨e0, e1, Aj, cj, e2, e3, e4⟩ := hc j hj
 exact ⟨(hb.cell (p := ⟨b, _, none⟩) hl).trans e0, (hb.cell (p := ⟨b, _, none⟩) hl).trans e1, Aj, cj, (hb.cell (p := ⟨b, _, none⟩) hl).trans e2, e3.below hb, e4⟩, h.room, h.room2⟩
theorem EsO.fut {w : World} {A : Option Addr} {c : Nat} {l : List Es} (h : EsO w A c l) : Fut w (fun w' => EsO w' A c l) := fun w' hb => h.below hb
theorem EsO.small {w : World} {A : Option Addr} {c : Nat} {l : List Es} (h : EsO w A c l) (hl : l.length ≤ 8) (hs : ∀ j (hj : j < l.length), l[j].ar.length ≤ 10) : EsIn w A c l := ⟨fun h0 => by
 obtain ⟨b, off, e, hl, hc⟩ := h.row h0
 refine ⟨b, off, e, hl, fun j hj => ?_⟩
 obtain ⟨e0, e1, Aj, cj, e2, e3, e4, e5⟩ := hc j hj
 have := hs j hj
 exact ⟨e0, e1, Aj, cj, e2, ⟨e3, by omega, e4, e5⟩⟩, by omega, h.room, h.room2⟩
def PC13 (g : Nat) (x y z : Int) (w : World) : Prop := w.cell? ⟨g, 0, none⟩ = some (.int .i64 x) ∧ w.cell? ⟨g, 1, none⟩ = some (.int .i64 y) ∧ w.cell? ⟨g, 2, none⟩ = some (.int .i64 z) ∧ g < w.heap.size
theorem PC13.go {g : Nat} {x y z : Int} {w w' : World} (h : PC13 g x y z w) (hb : Below w.heap.size w w') : PC13 g x y z w' := ⟨(hb.cell (p := ⟨g, 0, none⟩) h.2.2.2).trans h.1, (hb.cell (p := ⟨g, 1, none⟩) h.2.2.2).trans h.2.1, (hb.cell (p := ⟨g, 2, none⟩) h.2.2.2).trans h.2.2.1, Nat.lt_of_lt_of_le h.2.2.2 hb.size⟩
theorem PC13.fut {g : Nat} {x y z : Int} {w : World} (h : PC13 g x y z w) : Fut w (PC13 g x y z) := fun w' hb => h.go hb
theorem PC13.new (w : World) (x y z : Int) (k : Nat) (hk : k = w.heap.size) : PC13 k x y z (w.alloc (.cells #[.int .i64 x, .int .i64 y, .int .i64 z] 61)) := by
 subst hk
 have h := heap_alloc_new w (.cells #[.int .i64 x, .int .i64 y, .int .i64 z] 61)
 exact ⟨by rw [Lib.cell_of_heap h]; rfl, by rw [Lib.cell_of_heap h]; rfl, by rw [Lib.cell_of_heap h]; rfl, by rw [World.size_alloc]; omega⟩
def Pz13 (b o g : Nat) (lot top px py pz : Int) (v : Value) (w' : World) : Prop := w'.cell? ⟨b, o, none⟩ = some (.int .i64 lot) ∧ w'.cell? ⟨b, o + 1, none⟩ = some v ∧ w'.cell? ⟨b, o + 2, none⟩ = some (.int .i64 top) ∧ w'.cell? ⟨g, 0, none⟩ = some (.int .i64 px) ∧ w'.cell? ⟨g, 1, none⟩ = some (.int .i64 py) ∧ w'.cell? ⟨g, 2, none⟩ = some (.int .i64 pz) ∧ b < w'.heap.size ∧ g < w'.heap.size
theorem Pz13.go {b o g : Nat} {lot top px py pz : Int} {v : Value} {w w' : World} (h : Pz13 b o g lot top px py pz v w) (hb : Below w.heap.size w w') : Pz13 b o g lot top px py pz v w' := by
 obtain ⟨h0, h1, h2, h3, h4, h5, l1, l2⟩ := h
 have wc := fun o => hb.cell (p := ⟨b, o, none⟩) l1
 have wd := fun o => hb.cell (p := ⟨g, o, none⟩) l2
 exact ⟨(wc _).trans h0, (wc _).trans h1, (wc _).trans h2, (wd _).trans h3, (wd _).trans h4, (wd _).trans h5, Nat.lt_of_lt_of_le l1 hb.size, Nat.lt_of_lt_of_le l2 hb.size⟩
set_option maxHeartbeats 32000000 in
theorem easements_any (A : Option Addr) (cap : Nat) (l : List Es) (k px py pz qx qy qz : Int) (w : World) (h : EsO w A cap l) :
  Calls Tryz.prog 8 #[.slice A l.length cap, .int .i64 k, .agg #[.int .i64 px, .int .i64 py, .int .i64 pz], .agg #[.int .i64 qx, .int .i64 qy, .int .i64 qz]] w (BlIs true w) := by
 have HSM := Lib.hid (fun w' => small13_any w')
 have HOF := Lib.hid (fun (w' : World) (A : Option Addr) (c : Nat) (b : Bx) (h : BxRow w' A [b]) => show Calls Tryz.prog 36 #[.slice A 1 c] w' (SolRes (ofS [b]) w') from bof_any A c [b] w' h (by simp))
 have hroom := h.room
 have hroom2 := h.room2
 have H := Lib.hid h; clear h
 have K := Lib.hid (((Kp.start w).add (Below.refl _ _) H.out.fut).add ((Below.refl _ _).alloc (Nat.le_refl _) (.cells #[.int .i64 px, .int .i64 py, .int .i64 pz] 61)) (PC13.new w px py pz _ rfl).fut)
 replace K := Lib.hid (K.out.add ((Below.refl _ _).alloc (Nat.le_refl _) (.cells #[.int .i64 qx, .int .i64 qy, .int .i64 qz] 61)) (PC13.new _ qx qy qz (w.heap.size + 1) (by rw [World.size_alloc])).fut)
 clear H
 go_enter Tryz.func8, Tryz.ntmps8
 go_wp2_with fail
 generalize ((w.alloc (.cells #[.int .i64 px, .int .i64 py, .int .i64 pz] 61)).alloc (.cells #[.int .i64 qx, .int .i64 qy, .int .i64 qz] 61)) = w0 at *
 refine (HSM.out _).mono ?_
 rintro e w1 ⟨rfl, hb1⟩
 replace K := Lib.hid (K.out.go hb1)
 clear hb1 HSM
 by_cases hbig : 8 < l.length
 ·have s0 : (8 : Int) < (l.length : Int) := by omega
  go_wp2_with fail
  go_ret
  exact ⟨rfl, K.out.2⟩
 have s0 : ¬ (8 : Int) < (l.length : Int) := by omega
 go_wp2_with fail
 go_loopw [10] (fun i wr => ∃ (j : Nat), j ≤ l.length ∧ i = .int .i64 j ∧ Hid (∀ t (ht : t < l.length), t < j → l[t].ar.length ≤ 10) ∧ Hid (Kp [PC13 (w.heap.size + 1) qx qy qz, PC13 w.heap.size px py pz, fun w' => EsO w' A cap l] w wr)) (fun i _ => l.length - (intOf i).toNat)
 case atStart => exact ⟨0, Nat.zero_le _, rfl, Lib.hid (fun t ht h => absurd h (Nat.not_lt_zero _)), K⟩
 case round =>
  clear K
  obtain ⟨j, hj, rfl, HS, K⟩ := hrel
  by_cases hlt : j < l.length
  ·have HE := Lib.hid (K.out.nth 2 rfl)
   obtain ⟨b, o, rfl, hb, hc⟩ := HE.out.row (by omega)
   obtain ⟨x0, x2, EA, EC, x1, hr⟩ := hc j hlt
   have n0 : (0 : Int) ≤ (j : Int) := by omega
   have n1 : (j : Int) < (l.length : Int) := by omega
   have HS2 : Hid (l[j].ar.length ≤ 10 → ∀ t (ht : t < l.length), t < j + 1 → l[t].ar.length ≤ 10) := Lib.hid (fun he t ht h => by
    by_cases e : t = j
    ·subst e; exact he
    ·exact HS.out t ht (by omega))
   have hcap := hr.2.1
   have hcap2 := hr.2.2
   clear hc hr HE HS
   by_cases c : 10 < l[j].ar.length
   ·clear HS2
    have s1 : (10 : Int) < (l[j].ar.length : Int) := by omega
    generalize l[j].ar.length = na at *
    go_wp2_with fail
    go_ret
    exact ⟨rfl, K.out.2⟩
   ·have s1 : ¬ (10 : Int) < (l[j].ar.length : Int) := by omega
    have HS3 := Lib.hid (HS2.out (by omega))
    clear HS2
    generalize l[j].ar.length = na at *
    go_wp2_with fail
    go_roundw
    case rel => exact ⟨j + 1, by omega, by go_num, HS3, K⟩
    case measure => simp [intOf]; omega
  ·obtain rfl : j = l.length := by omega
   have HE0 := Lib.hid ((K.out.nth 2 rfl).small (by omega) (fun t ht => HS.out t ht ht))
   replace K : Hid (Kp [PC13 (w.heap.size + 1) qx qy qz, PC13 w.heap.size px py pz, fun w' => EsIn w' A cap l] w wr) := Lib.hid ⟨fun P hP => by
    simp only [List.mem_cons, List.not_mem_nil, or_false] at hP
    rcases hP with rfl | rfl | rfl
    ·exact K.out.1 _ List.mem_cons_self
    ·exact K.out.1 _ (List.mem_cons_of_mem _ List.mem_cons_self)
    ·exact HE0.out.fut, K.out.2⟩
   clear HE0 HS
   obtain ⟨S, es, hS⟩ : ∃ S es, ofS [bxW px py pz] = (S, es) := ⟨_, _, rfl⟩
   obtain ⟨T, et, hT⟩ : ∃ T et, ofS [bxW qx qy qz] = (T, et) := ⟨_, _, rfl⟩
   obtain ⟨U, eu, hU⟩ : ∃ U eu, opS or S T = (U, eu) := ⟨_, _, rfl⟩
   have HO1 := Lib.hid (fun (w' : World) (A : Option Addr) (c : Nat) (h : BxRow w' A [bxW px py pz]) => show Calls Tryz.prog 36 #[.slice A 1 c] w' (SolRes (S, es) w') from by
    have := HOF.out w' A c (bxW px py pz) h
    rw [hS] at this; exact this)
   have HO2 := Lib.hid (fun (w' : World) (A : Option Addr) (c : Nat) (h : BxRow w' A [bxW qx qy qz]) => show Calls Tryz.prog 36 #[.slice A 1 c] w' (SolRes (T, et) w') from by
    have := HOF.out w' A c (bxW qx qy qz) h
    rw [hT] at this; exact this)
   have HUN := Lib.hid (fun (w' : World) (A : Option Addr) (c : Nat) (A2 : Option Addr) (c2 : Nat) (h : SIn w' A c S) (h2 : SIn w' A2 c2 T) => show Calls Tryz.prog 37 #[.slice A S.length c, .slice A2 T.length c2] w' (SolRes (U, eu) w') from by
    have := bunion_any A c A2 c2 S T w' h h2
    rw [hU] at this; exact this)
   have HLAW : Hid (es = 0 → et = 0 → eu = 0 → respB l k S = l.all (wantB k px py pz) ∧ respB l k U = (respB l k S && respB l k T) ∧ respB l k [] = true) := Lib.hid (fun h1 h2 h3 => by
    subst h1; subst h2; subst h3
    exact ease_all hS hT hU)
   clear hS hT hU HOF
   obtain ⟨a0, a1, a2, al⟩ := K.out.nth 1 rfl
   go_wp2_with fail
   refine (HO1.out _ _ _ (lit_box13 _ (bxW px py pz) _ rfl)).mono ?_
   rintro e w2 ⟨A2, c2, rfl, hr2, hb2⟩
   replace K := Lib.hid ((K.out.go ((Below.refl _ _).alloc (Nat.le_refl _) _)).add hb2 hr2.fut)
   clear hr2 hb2 a0 a1 a2 al
   simp only
   obtain ⟨a0, a1, a2, al⟩ := K.out.nth 1 rfl
   go_wp2_with fail
   refine (HO2.out _ _ _ (lit_box13 _ (bxW qx qy qz) _ rfl)).mono ?_
   rintro e w3 ⟨A3, c3, rfl, hr3, hb3⟩
   replace K := Lib.hid ((K.out.go ((Below.refl _ _).alloc (Nat.le_refl _) _)).add hb3 hr3.fut)
   clear hr3 hb3 a0 a1 a2 al
   simp only
   go_wp2_with fail
   refine (HUN.out _ _ _ _ _ (K.out.nth 1 rfl) (K.out.nth 0 rfl)).mono ?_
   rintro e w4 ⟨A4, c4, rfl, hr4, hb4⟩
   replace K := Lib.hid (K.out.add hb4 hr4.fut)
   clear hr4 hb4 HO1 HO2 HUN
   simp only
   by_cases d1 : es = 0
   case neg =>
    have e1 : (es == 0) = false := by simpa using d1
    clear HLAW
    go_wp2_with fail
    go_ret
    exact ⟨rfl, K.out.2⟩
   by_cases d2 : et = 0
   case neg =>
    have e2 : (et == 0) = false := by simpa using d2
    have e1 : (es == 0) = true := by simpa using d1
    clear HLAW
    go_wp2_with fail
    go_ret
    exact ⟨rfl, K.out.2⟩
   by_cases d3 : eu = 0
   case neg =>
    have e2 : (et == 0) = true := by simpa using d2
    have e1 : (es == 0) = true := by simpa using d1
    have e3 : (eu == 0) = false := by simpa using d3
    clear HLAW
    go_wp2_with fail
    go_ret
    exact ⟨rfl, K.out.2⟩
   replace HLAW := Lib.hid (HLAW.out d1 d2 d3)
   have e1 : (es == 0) = true := by simpa using d1
   have e2 : (et == 0) = true := by simpa using d2
   have e3 : (eu == 0) = true := by simpa using d3
   have HHA := Lib.hid (fun (EA : Option Addr) (EC : Nat) (ar : List Rc) (x y : Int) (w' : World) (h : RIn w' EA EC ar) => ghas_any EA EC ar x y w' h)
   go_wp2_with fail
   go_loopw [17, 18] (fun v i wr => ∃ (j : Nat), j ≤ l.length ∧ i = .int .i64 j ∧ v = .bool ((l.take j).all (wantB k px py pz)) ∧ Hid (Kp [fun w' => SIn w' A4 c4 U, fun w' => SIn w' A3 c3 T, fun w' => SIn w' A2 c2 S, PC13 (w.heap.size + 1) qx qy qz, PC13 w.heap.size px py pz, fun w' => EsIn w' A cap l] w wr)) (fun _ i _ => l.length - (intOf i).toNat)
   case atStart => exact ⟨0, Nat.zero_le _, rfl, rfl, K⟩
   case round =>
    clear K
    obtain ⟨j, hj, rfl, rfl, K⟩ := hrel
    by_cases hlt : j < l.length
    ·have HE := Lib.hid (K.out.nth 5 rfl)
     obtain ⟨b, o, rfl, hb, hc⟩ := HE.out.row (by omega)
     obtain ⟨x0, x2, EA, EC, x1, hr⟩ := hc j hlt
     obtain ⟨a0, a1, a2, al⟩ := K.out.nth 4 rfl
     have HR := Lib.hid hr
     have n0 : (0 : Int) ≤ (j : Int) := by omega
     have n1 : (j : Int) < (l.length : Int) := by omega
     have HN : Hid ((l.take (j + 1)).all (wantB k px py pz) = ((l.take j).all (wantB k px py pz) && (decide (l[j].lot ≠ k) || decide (pz < l[j].top) || !hasRg l[j].ar px py))) := Lib.hid (all_take hlt)
     clear hc hr HE HLAW
     generalize l[j] = u at *
     obtain ⟨lot, ear, top⟩ := u
     simp only at x0 x1 x2 HN HR
     have HH2 := Lib.hid (fun w' (h : RIn w' EA EC ear) => HHA.out EA EC ear px py w' h)
     clear HHA
     generalize hasRg ear px py = hs at *
     generalize (l.take j).all (wantB k px py pz) = v at *
     obtain ⟨na, hna⟩ : ∃ n, n = ear.length := ⟨_, rfl⟩
     rw [← hna] at x1 HH2
     clear hna
     cases v
     ·have HN2 : Hid ((l.take (j + 1)).all (wantB k px py pz) = false) := Lib.hid (by rw [HN.out, Bool.false_and])
      clear HN
      go_wp2_with fail
      go_quiet (fail)
      go_wp2_with fail
      go_roundw
      case rel => exact ⟨j + 1, by omega, by go_num, by rw [HN2.out], Lib.hid (K.out.go (below_drewN (Below.refl _ _) _))⟩
      case measure => simp [intOf]; omega
     by_cases c0 : lot = k
     case neg =>
      have e0 : (lot == k) = false := by simpa using c0
      have e1 : (lot != k) = true := by simpa using c0
      have HN2 : Hid ((l.take (j + 1)).all (wantB k px py pz) = true) := Lib.hid (by rw [HN.out]; simp [c0])
      clear HN
      go_wp2_with fail
      go_quiet (fail)
      go_wp2_with fail
      go_roundw
      case rel => exact ⟨j + 1, by omega, by go_num, by rw [HN2.out], Lib.hid (K.out.go (below_drewN (Below.refl _ _) _))⟩
      case measure => simp [intOf]; omega
     have e0 : (lot == k) = true := by simpa using c0
     have e1 : (lot != k) = false := by simpa using c0
     by_cases c1 : pz < top
     case pos =>
      have e2 : decide (pz < top) = true := by simpa using c1
      have HN2 : Hid ((l.take (j + 1)).all (wantB k px py pz) = true) := Lib.hid (by rw [HN.out]; simp [c1])
      clear c0
      clear HN
      go_wp2_with fail
      go_quiet (fail)
      go_wp2_with fail
      go_roundw
      case rel => exact ⟨j + 1, by omega, by go_num, by rw [HN2.out], Lib.hid (K.out.go (below_drewN (Below.refl _ _) _))⟩
      case measure => simp [intOf]; omega
     have e2 : decide (pz < top) = false := by simpa using c1
     have HN2 : Hid ((l.take (j + 1)).all (wantB k px py pz) = !hs) := Lib.hid (by rw [HN.out]; simp [c0, c1])
     have HPZ : Hid (Pz13 b (o + j * 3) w.heap.size lot top px py pz (.slice EA na EC) wr) := Lib.hid ⟨x0, x1, x2, a0, a1, a2, hb, al⟩
     have KP := K
     clear HN c0 x0 x1 x2 a0 a1 a2 hb al K
     go_wp2_with fail
     refine wp_region_held_drew (S := fun w' => w'.cell? ⟨b, o + j * 3, none⟩ = some (.int .i64 lot) ∧ w'.cell? ⟨b, o + j * 3 + 1, none⟩ = some (.slice EA na EC) ∧ w'.cell? ⟨b, o + j * 3 + 2, none⟩ = some (.int .i64 top) ∧ w'.cell? ⟨w.heap.size, 0, none⟩ = some (.int .i64 px) ∧ w'.cell? ⟨w.heap.size, 1, none⟩ = some (.int .i64 py) ∧ w'.cell? ⟨w.heap.size, 2, none⟩ = some (.int .i64 pz) ∧ b < w'.heap.size ∧ w.heap.size < w'.heap.size) (by kernel_rfl) ?_ (fun hHeld => ?_)
     ·exact HPZ.out.go (below_drewN (Below.refl _ _) 1)
     refine tkLT (i := 0) (oi := ⟨some 106, .move (.tmp 17), 4, "law.go:294", #[], none⟩) rfl ?_
     try simp only [sxLT]
     refine tkLT (i := 1) (oi := ⟨some 107, .move (.tmp 106), 4, "law.go:294", #[⟨0, .data⟩], none⟩) rfl ?_
     try simp only [sxLT]
     refine tkLT (i := 2) (oi := ⟨some 108, .move (.tmp 0), 59, "law.go:294", #[⟨1, .guard⟩], some (1, true)⟩) rfl ?_
     try simp only [sxLT]
     refine tkLT (i := 3) (oi := ⟨some 109, .move (.tmp 18), 3, "law.go:294", #[⟨1, .guard⟩], some (1, true)⟩) rfl ?_
     try simp only [sxLT]
     refine tkLT (i := 4) (oi := ⟨some 110, .indexAddr 59 (.tmp 108) (.tmp 109), 0, "law.go:294", #[⟨2, .data⟩, ⟨3, .data⟩, ⟨1, .guard⟩], some (1, true)⟩) rfl ?_
     try simp only [sxLT]
     refine tkLT (i := 5) (oi := ⟨some 111, .fieldAddr 63 (.tmp 110) 0, 0, "law.go:294", #[⟨4, .data⟩, ⟨1, .guard⟩], some (1, true)⟩) rfl ?_
     try simp only [sxLT]
     refine tkLT (i := 6) (oi := ⟨some 112, .load 3 (.tmp 111), 3, "law.go:294", #[⟨5, .data⟩, ⟨1, .guard⟩], some (1, true)⟩) rfl ?_
     try simp only [sxLT]
     refine tkLT (i := 7) (oi := ⟨some 113, .move (.tmp 1), 3, "law.go:294", #[⟨1, .guard⟩], some (1, true)⟩) rfl ?_
     try simp only [sxLT]
     refine tkLT (i := 8) (oi := ⟨some 114, .binOp .neq 3 (.tmp 112) (.tmp 113) 3, 4, "law.go:294", #[⟨6, .data⟩, ⟨7, .data⟩, ⟨1, .guard⟩], some (1, true)⟩) rfl ?_
     try simp only [sxLT]
     refine tkLT (i := 9) (oi := ⟨some 115, .move (.tmp 114), 4, "law.go:294", #[⟨8, .data⟩, ⟨1, .chain⟩, ⟨1, .guard⟩], some (1, true)⟩) rfl ?_
     try simp only [sxLT]
     refine tkLT (i := 10) (oi := ⟨some 116, .fieldAddr 61 (.tmp 6) 2, 0, "law.go:294", #[⟨9, .guard⟩], some (9, false)⟩) rfl ?_
     try simp only [sxLT]
     refine tkLT (i := 11) (oi := ⟨some 117, .load 3 (.tmp 116), 3, "law.go:294", #[⟨10, .data⟩, ⟨9, .guard⟩], some (9, false)⟩) rfl ?_
     try simp only [sxLT]
     refine tkLT (i := 12) (oi := ⟨some 118, .move (.tmp 0), 59, "law.go:294", #[⟨9, .guard⟩], some (9, false)⟩) rfl ?_
     try simp only [sxLT]
     refine tkLT (i := 13) (oi := ⟨some 119, .move (.tmp 18), 3, "law.go:294", #[⟨9, .guard⟩], some (9, false)⟩) rfl ?_
     try simp only [sxLT]
     refine tkLT (i := 14) (oi := ⟨some 120, .indexAddr 59 (.tmp 118) (.tmp 119), 0, "law.go:294", #[⟨12, .data⟩, ⟨13, .data⟩, ⟨9, .guard⟩], some (9, false)⟩) rfl ?_
     try simp only [sxLT]
     refine tkLT (i := 15) (oi := ⟨some 121, .fieldAddr 63 (.tmp 120) 2, 0, "law.go:294", #[⟨14, .data⟩, ⟨9, .guard⟩], some (9, false)⟩) rfl ?_
     try simp only [sxLT]
     refine tkLT (i := 16) (oi := ⟨some 122, .load 3 (.tmp 121), 3, "law.go:294", #[⟨15, .data⟩, ⟨9, .guard⟩], some (9, false)⟩) rfl ?_
     try simp only [sxLT]
     refine tkLT (i := 17) (oi := ⟨some 123, .binOp .lss 3 (.tmp 117) (.tmp 122) 3, 4, "law.go:294", #[⟨11, .data⟩, ⟨16, .data⟩, ⟨9, .guard⟩], some (9, false)⟩) rfl ?_
     try simp only [sxLT]
     refine tkLT (i := 18) (oi := ⟨some 124, .pick (.tmp 115) (.const (.bool true)) (.tmp 123), 4, "law.go:294", #[⟨9, .data⟩, ⟨17, .data⟩, ⟨1, .guard⟩], some (1, true)⟩) rfl ?_
     try simp only [sxLT]
     refine tkLT (i := 19) (oi := ⟨some 125, .move (.tmp 124), 4, "law.go:294", #[⟨18, .data⟩, ⟨9, .chain⟩, ⟨1, .guard⟩], some (1, true)⟩) rfl ?_
     try simp only [sxLT]
     refine tkLT (i := 20) (oi := ⟨some 126, .move (.tmp 0), 59, "law.go:294", #[⟨19, .guard⟩], some (19, false)⟩) rfl ?_
     try simp only [sxLT]
     refine tkLT (i := 21) (oi := ⟨some 127, .move (.tmp 18), 3, "law.go:294", #[⟨19, .guard⟩], some (19, false)⟩) rfl ?_
     try simp only [sxLT]
     refine tkLT (i := 22) (oi := ⟨some 128, .indexAddr 59 (.tmp 126) (.tmp 127), 0, "law.go:294", #[⟨20, .data⟩, ⟨21, .data⟩, ⟨19, .guard⟩], some (19, false)⟩) rfl ?_
     try simp only [sxLT]
     refine tkLT (i := 23) (oi := ⟨some 129, .fieldAddr 63 (.tmp 128) 1, 0, "law.go:294", #[⟨22, .data⟩, ⟨19, .guard⟩], some (19, false)⟩) rfl ?_
     try simp only [sxLT]
     refine tkLT (i := 24) (oi := ⟨some 130, .load 30 (.tmp 129), 30, "law.go:294", #[⟨23, .data⟩, ⟨19, .guard⟩], some (19, false)⟩) rfl ?_
     try simp only [sxLT]
     refine tkLT (i := 25) (oi := ⟨some 131, .fieldAddr 61 (.tmp 6) 0, 0, "law.go:294", #[⟨19, .guard⟩], some (19, false)⟩) rfl ?_
     try simp only [sxLT]
     refine tkLT (i := 26) (oi := ⟨some 132, .load 3 (.tmp 131), 3, "law.go:294", #[⟨25, .data⟩, ⟨19, .guard⟩], some (19, false)⟩) rfl ?_
     try simp only [sxLT]
     refine tkLT (i := 27) (oi := ⟨some 133, .fieldAddr 61 (.tmp 6) 1, 0, "law.go:294", #[⟨19, .guard⟩], some (19, false)⟩) rfl ?_
     try simp only [sxLT]
     refine tkLT (i := 28) (oi := ⟨some 134, .load 3 (.tmp 133), 3, "law.go:294", #[⟨27, .data⟩, ⟨19, .guard⟩], some (19, false)⟩) rfl ?_
     try simp only [sxLT]
     refine wpAnyH_ready (rs := [29]) (by kernel_rfl) (by simp) ?_
     refine AllReadyH.cons (o := ⟨some 135, .call { callee := .value (.func 25), args := #[.tmp 130, .tmp 132, .tmp 134], argTypes := #[30, 3, 3] }, 4, "law.go:294", #[⟨24, .data⟩, ⟨26, .data⟩, ⟨28, .data⟩, ⟨19, .chain⟩, ⟨19, .guard⟩], some (19, false)⟩) rfl (fun K hK => ?_) AllReadyH.nil
     go_simp
     go_at_call 25
     refine (HH2.out _ (HR.out.below (below_drewN (Below.refl wr.heap.size wr) 1))).mono ?_
     rintro e w' ⟨rfl, hb⟩
     have K5 := Lib.hid ((KP.out.go (below_drewN (Below.refl wr.heap.size wr) 1)).go hb)
     try go_wp2_with fail
     refine hK.out _ _ (Pz13.go ‹_› hb) (fun hHeld2 => ?_)
     clear hK K hHeld hb
     have hHeld := hHeld2; clear hHeld2
     try simp only [sxLT]
     refine tkLT (i := 30) (oi := ⟨some 136, .unOp .not 4 (.tmp 135), 4, "law.go:294", #[⟨29, .data⟩, ⟨19, .guard⟩], some (19, false)⟩) rfl ?_
     try simp only [sxLT]
     refine tkLT (i := 31) (oi := ⟨some 137, .pick (.tmp 125) (.const (.bool true)) (.tmp 136), 4, "law.go:294", #[⟨19, .data⟩, ⟨30, .data⟩, ⟨1, .guard⟩], some (1, true)⟩) rfl ?_
     try simp only [sxLT]
     refine tkLT (i := 32) (oi := ⟨some 138, .pick (.tmp 107) (.tmp 137) (.const (.bool false)), 4, "law.go:294", #[⟨1, .data⟩, ⟨31, .data⟩], none⟩) rfl ?_
     try simp only [sxLT]
     refine tkLT (i := 33) (oi := ⟨some 17, .assign (.tmp 138), 4, "law.go:294", #[⟨32, .data⟩, ⟨29, .chain⟩, ⟨0, .phase⟩, ⟨1, .phase⟩, ⟨2, .phase⟩, ⟨3, .phase⟩, ⟨4, .phase⟩, ⟨5, .phase⟩, ⟨6, .phase⟩, ⟨7, .phase⟩, ⟨8, .phase⟩, ⟨9, .phase⟩, ⟨10, .phase⟩, ⟨11, .phase⟩, ⟨12, .phase⟩, ⟨13, .phase⟩, ⟨14, .phase⟩, ⟨15, .phase⟩, ⟨16, .phase⟩, ⟨17, .phase⟩, ⟨18, .phase⟩, ⟨19, .phase⟩, ⟨20, .phase⟩, ⟨21, .phase⟩, ⟨22, .phase⟩, ⟨23, .phase⟩, ⟨24, .phase⟩, ⟨25, .phase⟩, ⟨26, .phase⟩, ⟨27, .phase⟩, ⟨28, .phase⟩, ⟨29, .phase⟩, ⟨30, .phase⟩, ⟨31, .phase⟩, ⟨32, .phase⟩], none⟩) rfl ?_
     try simp only [sxLT]
     refine wpAnyH_done (by kernel_rfl) ?_ _
     cases hs <;> (
      go_wp2_with fail
      go_roundw
      case rel => exact ⟨j + 1, by omega, by go_num, by rw [HN2.out], K5⟩
      case measure => simp [intOf]; omega)
    ·obtain rfl : j = l.length := by omega
     rw [List.take_length]
     obtain ⟨f1, f2, f3⟩ := HLAW.out
     have HP := Lib.hid (fun (A' : Option Addr) (c : Nat) (V : List Sl) (w' : World) (h : EsIn w' A cap l) (h2 : SIn w' A' c V) => respect_any A cap l k A' c V w' h h2)
     rw [← f1]
     have HP1 := Lib.hid (fun (w' : World) (h : EsIn w' A cap l) (h2 : SIn w' A2 c2 S) => HP.out A2 c2 S w' h h2)
     have HP2 := Lib.hid (fun (w' : World) (h : EsIn w' A cap l) (h2 : SIn w' A4 c4 U) => show Calls Tryz.prog 38 #[.slice A l.length cap, .int .i64 k, .slice A4 U.length c4] w' (BlIs (respB l k S && respB l k T) w') from by
      have := HP.out A4 c4 U w' h h2
      rw [f2] at this; exact this)
     have HP3 := Lib.hid (fun (w' : World) (h : EsIn w' A cap l) (h2 : SIn w' A3 c3 T) => HP.out A3 c3 T w' h h2)
     have HP4 := Lib.hid (fun (w' : World) (h : EsIn w' A cap l) => show Calls Tryz.prog 38 #[.slice A l.length cap, .int .i64 k, .slice none 0 0] w' (BlIs true w') from by
      have := HP.out none 0 [] w' h (SIn.nil w')
      rw [f3] at this; exact this)
     clear f1 f2 f3 HP HLAW HHA
     generalize respB l k S = v1 at *
     generalize respB l k T = v2 at *
     go_wp2_with fail
     refine (HP1.out _ (K.out.nth 5 rfl) (K.out.nth 2 rfl)).mono ?_
     rintro e w5 ⟨rfl, hb5⟩
     replace K := Lib.hid (K.out.go hb5)
     clear hb5
     cases v1
     ·go_wp2_with fail
      refine (HP2.out _ (K.out.nth 5 rfl) (K.out.nth 0 rfl)).mono ?_
      rintro e w6 ⟨rfl, hb6⟩
      replace K := Lib.hid (K.out.go hb6)
      clear hb6
      rw [Bool.false_and]
      go_wp2_with fail
      refine (HP4.out _ (K.out.nth 5 rfl)).mono ?_
      rintro e w7 ⟨rfl, hb7⟩
      replace K := Lib.hid (K.out.go hb7)
      clear hb7
      go_wp2_with fail
      go_ret
      exact ⟨rfl, K.out.2⟩
     ·go_wp2_with fail
      refine (HP2.out _ (K.out.nth 5 rfl) (K.out.nth 0 rfl)).mono ?_
      rintro e w6 ⟨rfl, hb6⟩
      replace K := Lib.hid (K.out.go hb6)
      clear hb6
      rw [Bool.true_and]
      go_wp2_with fail
      refine (HP3.out _ (K.out.nth 5 rfl) (K.out.nth 1 rfl)).mono ?_
      rintro e w7 ⟨rfl, hb7⟩
      replace K := Lib.hid (K.out.go hb7)
      clear hb7
      cases v2 <;> (
       go_wp2_with fail
       refine (HP4.out _ (K.out.nth 5 rfl)).mono ?_
       rintro e w8 ⟨rfl, hb8⟩
       replace K := Lib.hid (K.out.go hb8)
       clear hb8
       go_wp2_with fail
       go_ret
       exact ⟨rfl, K.out.2⟩)
end Go.Proofs.YtngddecpfhlilaaGreat
