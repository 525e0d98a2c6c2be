/-
  Lots (layer 13): the documentation's examples by their values, first part. No program in this text.
  Contracts of the program's layer 9, 9: Section, Boxes, Same.
  Contracts of layer 13 (12): clones.
-/
import Derived.Test.YtngddecpfhlilaaGreatC27
import Derived.Test.YtngddecpfhlilaaGreatC12
import Derived.Test.YtngddecpfhlilaaGreatC09
import Derived.Test.YtngddecpfhlilaaGreatC22
import Derived.Test.YtngddecpfhlilaaGreatC25
set_option linter.unusedVariables false
set_option maxRecDepth 100000
namespace Go.Proofs.YtngddecpfhlilaaGreat
theorem one_rect {r : Rc} (h : ROk r) : IsForm [r] := by
 refine ⟨[⟨r.X0, r.X1, [r.Y0, r.Y1]⟩], ?_, rfl⟩
 show SlabOk _
 refine ⟨h.1, by simp, ⟨h.2.2.1, trivial⟩, ?_, ?_⟩
 ·show Even [r.Y0, r.Y1]
  first | exact trivial | (unfold Even; simp) | (simp [Even])
 ·intro x hx
  have h1 := h.2.1; have h2 := h.2.2.1; have h3 := h.2.2.2
  simp only [List.mem_cons, List.not_mem_nil, or_false] at hx
  rcases hx with rfl | rfl <;> omega
theorem one_reg {r : Rc} (h : ROk r) : RegP [r] := ⟨one_rect h, by simp⟩
theorem one_parts (r : Rc) : (partsR [r]).length = 1 := by
 have h := (partsL_yes (a := [r]) (k := 0) rfl).2
 show (partsL 1 [r]).length = 1
 rw [h, List.length_append]
 rfl
theorem one_part {r : Rc} (h : ROk r) : oneB [r] = true := @decide_eq_true _ (Classical.propDecidable _) ⟨one_reg h, one_parts r⟩
theorem one_has {r : Rc} (h : ROk r) (x y : Int) : HasL [r] x y ↔ r.X0 ≤ x ∧ x < r.X1 ∧ r.Y0 ≤ y ∧ y < r.Y1 := by
 constructor
 ·rintro ⟨q, hq, hq2⟩
  rw [List.mem_singleton] at hq; subst hq
  exact hq2.2
 ·intro h2
  exact ⟨r, by simp, h, h2⟩
theorem form_val {op : Bool → Bool → Bool} (h0 : op false false = false) {a b m : List Rc} (ha : ∀ r ∈ a, ROk r) (hb : ∀ r ∈ b, ROk r) (hm : IsForm m) (h : ∀ x y, HasL m x y ↔ op (hasB a x y) (hasB b x y) = true) : formO op a b = m := by
 obtain ⟨h1, h2⟩ := formO_is h0 ha hb
 exact form_eq h1 hm (fun x y => by rw [h2, h])
theorem form_val1 {a m : List Rc} (ha : ∀ r ∈ a, ROk r) (hm : IsForm m) (h : ∀ x y, HasL m x y ↔ HasL a x y) : formL a = m := by
 obtain ⟨h1, h2⟩ := formL_is ha
 exact form_eq h1 hm (fun x y => by rw [h2, h])
theorem has_iff (l : List Rc) (x y : Int) : hasB l x y = true ↔ HasL l x y := @decide_eq_true_iff _ (Classical.propDecidable _)
theorem and_iff (l m : List Rc) (x y : Int) : and (hasB l x y) (hasB m x y) = true ↔ HasL l x y ∧ HasL m x y := by rw [← has_iff, ← has_iff, Bool.and_eq_true]
theorem andnot_iff (l m : List Rc) (x y : Int) : andnot (hasB l x y) (hasB m x y) = true ↔ HasL l x y ∧ ¬ HasL m x y := by
 rw [← has_iff, ← has_iff]
 unfold andnot
 cases hasB l x y <;> cases hasB m x y <;> simp
theorem two_has {r q : Rc} (h : ROk r) (h2 : ROk q) (x y : Int) : HasL [r, q] x y ↔ (r.X0 ≤ x ∧ x < r.X1 ∧ r.Y0 ≤ y ∧ y < r.Y1) ∨ (q.X0 ≤ x ∧ x < q.X1 ∧ q.Y0 ≤ y ∧ y < q.Y1) := by
 rw [← one_has h, ← one_has h2]
 constructor
 ·rintro ⟨p, hp, hp2⟩
  simp only [List.mem_cons, List.not_mem_nil, or_false] at hp
  rcases hp with rfl | rfl
  ·exact .inl ⟨_, by simp, hp2⟩
  ·exact .inr ⟨_, by simp, hp2⟩
 ·rintro (⟨p, hp, hp2⟩ | ⟨p, hp, hp2⟩)
  ·rw [List.mem_singleton] at hp; subst hp; exact ⟨_, by simp, hp2⟩
  ·rw [List.mem_singleton] at hp; subst hp; exact ⟨_, by simp, hp2⟩
theorem two_form {r q : Rc} (h : ROk r) (h2 : ROk q) (hb : r.X1 < q.X0) : IsForm [r, q] := by
 refine ⟨[⟨r.X0, r.X1, [r.Y0, r.Y1]⟩, ⟨q.X0, q.X1, [q.Y0, q.Y1]⟩], ?_, rfl⟩
 obtain ⟨S1, hS1, e1⟩ := one_rect h
 have g1 : SlabOk ⟨r.X0, r.X1, [r.Y0, r.Y1]⟩ := by
  refine ⟨h.1, by simp, ⟨h.2.2.1, trivial⟩, ?_, ?_⟩
  ·show Even [r.Y0, r.Y1]
   first | exact trivial | (unfold Even; simp) | (simp [Even])
  ·intro x hx
   have h1 := h.2.1; have h2 := h.2.2.1; have h3 := h.2.2.2
   simp only [List.mem_cons, List.not_mem_nil, or_false] at hx
   rcases hx with rfl | rfl <;> omega
 have g2 : SlabOk ⟨q.X0, q.X1, [q.Y0, q.Y1]⟩ := by
  refine ⟨h2.1, by simp, ⟨h2.2.2.1, trivial⟩, ?_, ?_⟩
  ·show Even [q.Y0, q.Y1]
   first | exact trivial | (unfold Even; simp) | (simp [Even])
  ·intro x hx
   have h1 := h2.2.1; have h3 := h2.2.2.1; have h4 := h2.2.2.2
   simp only [List.mem_cons, List.not_mem_nil, or_false] at hx
   rcases hx with rfl | rfl <;> omega
 exact ⟨g1, ⟨by show r.X1 ≤ q.X0; omega, fun e => by have : r.X1 = q.X0 := e; omega⟩, g2⟩
def T1 : Lt := ⟨1, 7, [⟨0, 0, 4, 2⟩], []⟩
def T2 : Lt := ⟨2, 7, [⟨4, 0, 6, 2⟩], []⟩
def T3 : Lt := ⟨3, 7, [⟨0, 0, 1, 2⟩], [1]⟩
def T4 : Lt := ⟨4, 7, [⟨1, 0, 4, 2⟩], [1]⟩
def T5 : Lt := ⟨5, 7, [⟨1, 0, 6, 2⟩], [1, 2, 4]⟩
theorem ok_42 : ROk ⟨0, 0, 4, 2⟩ := by decide
theorem ok_46 : ROk ⟨4, 0, 6, 2⟩ := by decide
theorem ok_01 : ROk ⟨0, 0, 1, 2⟩ := by decide
theorem ok_14 : ROk ⟨1, 0, 4, 2⟩ := by decide
theorem ok_16 : ROk ⟨1, 0, 6, 2⟩ := by decide
theorem ok_19 : ROk ⟨0, 0, 1, 9⟩ := by decide
theorem ok_12 : ROk ⟨1, 0, 2, 2⟩ := by decide
theorem ok_24 : ROk ⟨2, 0, 4, 2⟩ := by decide
theorem fr_nil : frB [] = true := by unfold frB; exact decide_eq_true (fun j h => absurd h (Nat.not_lt_zero _))
theorem fr_one : frB [1] = true := by
 unfold frB
 refine decide_eq_true (fun j h => ?_)
 obtain rfl : j = 0 := by simp at h; exact h
 exact ⟨rfl, fun h0 => absurd h0 (Nat.lt_irrefl _)⟩
theorem lot_of {id ow : Int} {r : Rc} {fr : List Int} (h : ROk r) (h1 : nB id = true) (h2 : oB ow = true) (h3 : frB fr = true) : lotB ⟨id, ow, [r], fr⟩ = true := by
 unfold lotB
 rw [h3, h1, h2, one_part h]; rfl
theorem lot_1 : lotB T1 = true := lot_of ok_42 (by decide) (by decide) fr_nil
theorem lot_2 : lotB T2 = true := lot_of ok_46 (by decide) (by decide) fr_nil
theorem lot_3 : lotB T3 = true := lot_of ok_01 (by decide) (by decide) fr_one
theorem lot_4 : lotB T4 = true := lot_of ok_14 (by decide) (by decide) fr_one
theorem land_0 : landB [] = true := landB_yes ⟨by simp, fun t ht => (nomatch ht), trivial, fun t ht => (nomatch ht), List.Pairwise.nil⟩
theorem land_1 : landB [T1] = true := landB_yes ⟨by simp, fun t ht => by rw [List.mem_singleton] at ht; subst ht; exact lot_1, ⟨fun u hu => (nomatch hu), trivial⟩, fun t ht n hn => by rw [List.mem_singleton] at ht; subst ht; exact (nomatch hn), List.pairwise_singleton _ _⟩
theorem land_2 : landB [T1, T2] = true := landB_yes ⟨by simp, fun t ht => by
 simp only [List.mem_cons, List.not_mem_nil, or_false] at ht
 rcases ht with rfl | rfl
 ·exact lot_1
 ·exact lot_2, ⟨fun u hu => by rw [List.mem_singleton] at hu; subst hu; decide, fun u hu => (nomatch hu), trivial⟩, fun t ht n hn => by
 simp only [List.mem_cons, List.not_mem_nil, or_false] at ht
 rcases ht with rfl | rfl <;> exact (nomatch hn), by
 show List.Pairwise Apt [⟨0, 0, 4, 2⟩, ⟨4, 0, 6, 2⟩]
 simp [Apt]⟩
theorem land_3 : landB [T2, T3, T4] = true := landB_yes ⟨by simp, fun t ht => by
 simp only [List.mem_cons, List.not_mem_nil, or_false] at ht
 rcases ht with rfl | rfl | rfl
 ·exact lot_2
 ·exact lot_3
 ·exact lot_4, ⟨fun u hu => by
  simp only [List.mem_cons, List.not_mem_nil, or_false] at hu
  rcases hu with rfl | rfl <;> decide, fun u hu => by rw [List.mem_singleton] at hu; subst hu; decide, fun u hu => (nomatch hu), trivial⟩, fun t ht n hn => by
 simp only [List.mem_cons, List.not_mem_nil, or_false] at ht
 rcases ht with rfl | rfl | rfl
 ·exact (nomatch hn)
 ·have : n = 1 := by simpa [T3] using hn
  subst this; rfl
 ·have : n = 1 := by simpa [T4] using hn
  subst this; rfl, by
 show List.Pairwise Apt [⟨4, 0, 6, 2⟩, ⟨0, 0, 1, 2⟩, ⟨1, 0, 4, 2⟩]
 simp [Apt]⟩
theorem add_1 : addM landB lotB [] T1 = ([T1], 0) := by
 unfold addM
 rw [land_0, lot_1]
 rfl
theorem add_2 : addM landB lotB [T1] T2 = ([T1, T2], 0) := by
 unfold addM
 rw [land_1, lot_2]
 rfl
theorem cut_3 : formO and [⟨0, 0, 4, 2⟩] [⟨0, 0, 1, 9⟩] = [⟨0, 0, 1, 2⟩] := by
 refine form_val rfl (fun r hr => by rw [List.mem_singleton] at hr; subst hr; exact ok_42) (fun r hr => by rw [List.mem_singleton] at hr; subst hr; exact ok_19) (one_rect ok_01) (fun x y => ?_)
 rw [and_iff, one_has ok_42, one_has ok_19, one_has ok_01]
 simp only
 omega
theorem cut_4 : formO andnot [⟨0, 0, 4, 2⟩] [⟨0, 0, 1, 9⟩] = [⟨1, 0, 4, 2⟩] := by
 refine form_val rfl (fun r hr => by rw [List.mem_singleton] at hr; subst hr; exact ok_42) (fun r hr => by rw [List.mem_singleton] at hr; subst hr; exact ok_19) (one_rect ok_14) (fun x y => ?_)
 rw [andnot_iff, one_has ok_42, one_has ok_19, one_has ok_14]
 simp only
 omega
theorem cut_in : formO and [⟨0, 0, 4, 2⟩] [⟨1, 0, 2, 2⟩] = [⟨1, 0, 2, 2⟩] := by
 refine form_val rfl (fun r hr => by rw [List.mem_singleton] at hr; subst hr; exact ok_42) (fun r hr => by rw [List.mem_singleton] at hr; subst hr; exact ok_12) (one_rect ok_12) (fun x y => ?_)
 rw [and_iff, one_has ok_42, one_has ok_12]
 simp only
 omega
theorem cut_out : formO andnot [⟨0, 0, 4, 2⟩] [⟨1, 0, 2, 2⟩] = [⟨0, 0, 1, 2⟩, ⟨2, 0, 4, 2⟩] := by
 refine form_val rfl (fun r hr => by rw [List.mem_singleton] at hr; subst hr; exact ok_42) (fun r hr => by rw [List.mem_singleton] at hr; subst hr; exact ok_12) (two_form ok_01 ok_24 (by decide)) (fun x y => ?_)
 rw [andnot_iff, one_has ok_42, one_has ok_12, two_has ok_01 ok_24]
 simp only
 omega
theorem split_3 (rg : List Rc → Bool) (h : rg [⟨0, 0, 1, 9⟩] = true) : splitM landB rg oneB [T1, T2] 1 [⟨0, 0, 1, 9⟩] 3 4 = ([T2, T3, T4], 0) := by
 have hf : findL [T1, T2] 1 = some T1 := rfl
 unfold splitM
 rw [land_2, h, hf]
 simp only
 rw [show T1.ar = [⟨0, 0, 4, 2⟩] from rfl, cut_3, cut_4, one_part ok_01, one_part ok_14]
 rw [if_neg (by decide), if_neg (by decide), if_neg (by simp), if_neg (by simp), if_neg (by simp)]
 unfold splitN
 rw [show T1.ar = [⟨0, 0, 4, 2⟩] from rfl, cut_3, cut_4]
 rfl
theorem two_parts : (partsR [(⟨0, 0, 1, 2⟩ : Rc), ⟨2, 0, 4, 2⟩]).length = 2 := by
 show ((partsN [(⟨0, 0, 1, 2⟩ : Rc), ⟨2, 0, 4, 2⟩] 2).2.map fun p => (ofR p).1).length = 2
 rw [List.length_map]
 decide
theorem split_no (rg : List Rc → Bool) (h : rg [⟨1, 0, 2, 2⟩] = true) : splitM landB rg oneB [T1, T2] 1 [⟨1, 0, 2, 2⟩] 3 4 = ([], 12) := by
 have hf : findL [T1, T2] 1 = some T1 := rfl
 have h1 : oneB [(⟨0, 0, 1, 2⟩ : Rc), ⟨2, 0, 4, 2⟩] = false := @decide_eq_false _ (Classical.propDecidable _) (fun c => by have := two_parts; rw [c.2] at this; omega)
 unfold splitM
 rw [land_2, h, hf]
 simp only
 rw [show T1.ar = [⟨0, 0, 4, 2⟩] from rfl, cut_in, cut_out, one_part ok_12, h1]
 rw [if_neg (by decide), if_neg (by decide), if_neg (by simp), if_neg (by simp), if_pos (by simp)]
end Go.Proofs.YtngddecpfhlilaaGreat
namespace Go.Proofs.YtngddecpfhlilaaGreat
open Go.RowKit
theorem zero_own (w : World) : (w.alloc (.cells #[] 68)).ownsRow w.heap.size 68 4 (.slice (some ⟨w.heap.size, 0, none⟩) 0 0) 0 [] :=
 ⟨rfl, Or.inr ⟨w.heap.size, 0, #[], rfl, Nat.le_refl _, heap_alloc_new w _, Nat.le_refl _, by unfold maxLen; omega, rfl, rfl⟩⟩
def Sx (p i b o : Nat) (u v : Sl) (A1 : Option Addr) (c1 : Nat) (A2 : Option Addr) (c2 : Nat) (w0 w : World) : Prop := w.cell? ⟨p, i, none⟩ = some (.int .i64 u.z0) ∧ w.cell? ⟨p, i + 1, none⟩ = some (.int .i64 u.z1) ∧ w.cell? ⟨p, i + 2, none⟩ = some (.slice A1 u.ar.length c1) ∧ w.cell? ⟨b, o, none⟩ = some (.int .i64 v.z0) ∧ w.cell? ⟨b, o + 1, none⟩ = some (.int .i64 v.z1) ∧ w.cell? ⟨b, o + 2, none⟩ = some (.slice A2 v.ar.length c2) ∧ p < w.heap.size ∧ b < w.heap.size ∧ Hid (Below w0.heap.size w0 w)
theorem Sx.go {p i b o : Nat} {u v : Sl} {A1 : Option Addr} {c1 : Nat} {A2 : Option Addr} {c2 : Nat} {w0 w w' : World} (h : Sx p i b o u v A1 c1 A2 c2 w0 w) (hb : Below w.heap.size w w') : Sx p i b o u v A1 c1 A2 c2 w0 w' := by
 obtain ⟨h0, h1, h2, h3, h4, h5, h6, h7, h8⟩ := h
 have cp := fun j => hb.cell (p := ⟨p, j, none⟩) h6
 have cb := fun j => hb.cell (p := ⟨b, j, none⟩) h7
 exact ⟨(cp _).trans h0, (cp _).trans h1, (cp _).trans h2, (cb _).trans h3, (cb _).trans h4, (cb _).trans h5, Nat.lt_of_lt_of_le h6 hb.size, Nat.lt_of_lt_of_le h7 hb.size, Lib.hid (h8.out.trans (hb.mono h8.out.size))⟩
theorem Sx.drewN {p i b o : Nat} {u v : Sl} {A1 : Option Addr} {c1 : Nat} {A2 : Option Addr} {c2 : Nat} {w0 w : World} (h : Sx p i b o u v A1 c1 A2 c2 w0 w) (n : Nat) : Sx p i b o u v A1 c1 A2 c2 w0 (w.drewN n) := h.go (below_drewN (Below.refl _ _) n)
end Go.Proofs.YtngddecpfhlilaaGreat
namespace Go.Proofs.YtngddecpfhlilaaGreat
open Go.RowKit
set_option maxHeartbeats 4000000 in
theorem rclone_any (A : Option Addr) (cap : Nat) (l : List Rc) (w : World) (h : RIn w A cap l) (hn : A = none → cap = 0) : Calls Tryz.prog 116 #[.slice A l.length cap] w (RcRes l w) := by
 obtain ⟨i0, hi9, hz0, hz1, hz2⟩ := info_parts infoRect
 have hl := h.len
 cases A with
 | none =>
  have hc := hn rfl
  subst hc
  have h3 : l = [] := List.eq_nil_of_length_eq_zero (by have := h.room; omega)
  subst h3
  simp only [List.length_nil]
  have EQN : ∀ w, Sem.run Tryz.prog (binOp BinOp.eql 30 (.slice none 0 0) (.slice none 0 0)) w = .ok (.bool true) w := fun w => by first | rfl | kernel_rfl
  clear h hl hn
  go_enter Tryz.func116, Tryz.ntmps116
  go_wp2_with fail
  go_ret
  exact ⟨_, rfl, World.ownsRow_nil _ _ _ _, Below.refl _ _⟩
 | some ad =>
  have HSRC : Hid (Src (w.alloc (.cells #[] 68)) (.slice (some ad) l.length cap) l.length (rcells l)) := Lib.hid (src_of (h.below ((Below.refl _ _).alloc (Nat.le_refl _) _)) (fun e => by cases e))
  have HOWN := Lib.hid (zero_own w)
  have EQN : ∀ w, Sem.run Tryz.prog (binOp BinOp.eql 30 (.slice (some ad) l.length cap) (.slice none 0 0)) w = .ok (.bool false) w := fun w => by first | rfl | kernel_rfl
  clear h hn
  go_enter Tryz.func116, Tryz.ntmps116
  go_wp2_with (at_builtin; refine wpList_append_src rfl _ _ 30 rfl w.heap.size 68 i0 (.agg #[.int .i64 0, .int .i64 0, .int .i64 0, .int .i64 0]) 32 Tryz.underlying30 hi9 hz0 hz1 hz2 rfl _ 0 [] rfl HOWN.out _ l.length (rcells l) rfl HSRC.out ?c3 ?c4 ?c5 ?_)
  case c3 => unfold maxLen; omega
  case c4 => omega
  case c5 => simp
  intro v' w4 hown' hgr
  have FIN : Hid (RcRes l w (.returned v') w4) := Lib.hid ⟨v', rfl, by simpa using hown', Below.grown ((Below.refl _ _).alloc (Nat.le_refl _) _) hgr (by simp) (fun k hk => (HOWN.out.lt k hk).1)⟩
  clear hown' hgr
  go_wp2_with fail
  go_ret
  exact FIN.out
theorem zero_ownI (w : World) : (w.alloc (.cells #[] 3)).ownsRow w.heap.size 3 1 (.slice (some ⟨w.heap.size, 0, none⟩) 0 0) 0 [] :=
 ⟨rfl, Or.inr ⟨w.heap.size, 0, #[], rfl, Nat.le_refl _, heap_alloc_new w _, Nat.le_refl _, by unfold maxLen; omega, rfl, rfl⟩⟩
def NsRes (F : List Int) (w : World) (e : Ending) (w' : World) : Prop := ∃ v, e = .returned v ∧ w'.ownsRow w.heap.size 3 1 v F.length (icells F) ∧ Below w.heap.size w w'
theorem NIn.news {w : World} {ad : Addr} {cap : Nat} {l : List Int} (h : NIn w (some ad) cap l) : ∀ (j : Nat) u, (icells l)[j]? = some u → w.cell? (ad.add j) = some u := fun j u hu => by
 have hj : j < l.length := by have := (List.getElem?_eq_some_iff.1 hu).1; simpa [icells] using this
 obtain ⟨b, o, e, hb, hc⟩ := h.row (by omega)
 injection e with e
 subst e
 have hadd : (⟨b, o, none⟩ : Addr).add j = ⟨b, o + j, none⟩ := by unfold Addr.add; split <;> simp_all
 rw [hadd, hc j hj]
 have e2 : (icells l)[j]? = some (.int .i64 l[j]) := by simp [icells, hj]
 rw [e2] at hu
 exact hu
set_option maxHeartbeats 4000000 in
theorem nclone_any (A : Option Addr) (cap : Nat) (l : List Int) (w : World) (h : NIn w A cap l) (hn : A = none → cap = 0) : Calls Tryz.prog 117 #[.slice A l.length cap] w (NsRes l w) := by
 obtain ⟨i0, hi9, hz0, hz1, hz2⟩ := info_parts infoInt
 have hl := h.len
 cases A with
 | none =>
  have hc := hn rfl
  subst hc
  have h3 : l = [] := List.eq_nil_of_length_eq_zero (by have := h.room; omega)
  subst h3
  simp only [List.length_nil]
  have EQN : ∀ w, Sem.run Tryz.prog (binOp BinOp.eql 31 (.slice none 0 0) (.slice none 0 0)) w = .ok (.bool true) w := fun w => by first | rfl | kernel_rfl
  clear h hl hn
  go_enter Tryz.func117, Tryz.ntmps117
  go_wp2_with fail
  go_ret
  exact ⟨_, rfl, World.ownsRow_nil _ _ _ _, Below.refl _ _⟩
 | some ad =>
  have HSRC := Lib.hid (h.below ((Below.refl w.heap.size w).alloc (Nat.le_refl _) (.cells #[] 3))).news
  have HOWN := Lib.hid (zero_ownI w)
  have EQN : ∀ w, Sem.run Tryz.prog (binOp BinOp.eql 31 (.slice (some ad) l.length cap) (.slice none 0 0)) w = .ok (.bool false) w := fun w => by first | rfl | kernel_rfl
  clear h hn
  go_enter Tryz.func117, Tryz.ntmps117
  go_wp2_with (at_builtin; refine wpList_append_own _ rfl _ _ 31 rfl w.heap.size 3 i0 (.int .i64 0) 1 8 Tryz.underlying31 hi9 hz0 hz1 hz2 rfl (by decide) _ 0 [] rfl HOWN.out ad l.length cap (icells l) rfl ?c1 HSRC.out ?c2 ?c3 ?c4 ?c5 ?_)
  case c1 => simp [icells]
  case c2 => intro u hu; obtain ⟨x, _, rfl⟩ := List.mem_map.1 hu; rfl
  case c3 => unfold maxLen; omega
  case c4 => omega
  case c5 => simp
  intro v' w4 hown' hgr _
  have FIN : Hid (NsRes l w (.returned v') w4) := Lib.hid ⟨v', rfl, by simpa using hown', Below.grown ((Below.refl _ _).alloc (Nat.le_refl _) _) hgr (by simp) (fun k hk => (HOWN.out.lt k hk).1)⟩
  clear hown' hgr
  go_wp2_with fail
  go_ret
  exact FIN.out
end Go.Proofs.YtngddecpfhlilaaGreat
