/-
  The laws' examples (small) of layer 13.
-/
import Derived.Test.YtngddecpfhlilaaGreatC39
set_option linter.unusedVariables false
set_option maxRecDepth 100000
namespace Go.Proofs.YtngddecpfhlilaaGreat
open Go.RowKit
def OR13 (L : List Lt) (n : Nat) (er : Int) (w : World) (e : Ending) (w' : World) : Prop := ∃ A c, e = .returned (.tuple #[.slice A n c, .int .i64 er]) ∧ LtIn w' A c L ∧ Below w.heap.size w w'
def RS13 (S : List Sl) (n : Nat) (er : Int) (w : World) (e : Ending) (w' : World) : Prop := ∃ A c, e = .returned (.tuple #[.slice A n c, .int .i64 er]) ∧ SIn w' A c S ∧ Below w.heap.size w w'
def NR13 (S : List Int) (n : Nat) (w : World) (e : Ending) (w' : World) : Prop := ∃ A c, e = .returned (.slice A n c) ∧ NIn w' A c S ∧ Below w.heap.size w w'
theorem lti_nil {w : World} {g : Nat} {r : Rc} {id ow : Int} (h : RIn w (some ⟨g, 0, none⟩) 1 [r]) : LtI w ⟨id, ow, [r], []⟩ ⟨some ⟨g, 0, none⟩, 1, none, 0⟩ := ⟨h, NIn.nil _, by simp, fun _ => rfl⟩
theorem lti_fr {w : World} {g k : Nat} {r : Rc} {id ow : Int} {fr : List Int} {n : Nat} (h : RIn w (some ⟨g, 0, none⟩) 1 [r]) (h2 : NIn w (some ⟨k, 0, none⟩) n fr) : LtI w ⟨id, ow, [r], fr⟩ ⟨some ⟨g, 0, none⟩, 1, some ⟨k, 0, none⟩, n⟩ := ⟨h, h2, by simp, by simp⟩
set_option maxHeartbeats 16000000 in
theorem small13_any (w : World) : Calls Tryz.prog 9 #[] w (BlIs true w) := by
 have HON := Lib.hid (fun (a b c d : Int) (w' : World) => wone_any a b c d w')
 have HA1 := Lib.hid (fun (w' : World) (g : Nat) (h : RIn w' (some ⟨g, 0, none⟩) 1 [⟨0, 0, 4, 2⟩]) => show Calls Tryz.prog 39 #[.slice none 0 0, .agg #[.int .i64 1, .int .i64 7, .slice (some ⟨g, 0, none⟩) 1 1, .slice none 0 0]] w' (OR13 [T1] 1 0 w') from by
  have := add13_any none 0 [] T1 ⟨some ⟨g, 0, none⟩, 1, none, 0⟩ w' (LtIn.nil _) (lti_nil h)
  rw [add_1] at this; exact this)
 have HA2 := Lib.hid (fun (w' : World) (A : Option Addr) (c : Nat) (g : Nat) (hL : LtIn w' A c [T1]) (h : RIn w' (some ⟨g, 0, none⟩) 1 [⟨4, 0, 6, 2⟩]) => show Calls Tryz.prog 39 #[.slice A 1 c, .agg #[.int .i64 2, .int .i64 7, .slice (some ⟨g, 0, none⟩) 1 1, .slice none 0 0]] w' (OR13 [T1, T2] 2 0 w') from by
  have := add13_any A c [T1] T2 ⟨some ⟨g, 0, none⟩, 1, none, 0⟩ w' hL (lti_nil h)
  rw [add_2] at this; exact this)
 have HS1 := Lib.hid (fun (w' : World) (A : Option Addr) (c : Nat) (g : Nat) (hL : LtIn w' A c [T1, T2]) (h : RIn w' (some ⟨g, 0, none⟩) 1 [⟨0, 0, 1, 9⟩]) => show Calls Tryz.prog 32 #[.slice A 2 c, .int .i64 1, .slice (some ⟨g, 0, none⟩) 1 1, .int .i64 3, .int .i64 4] w' (OR13 [T2, T3, T4] 3 0 w') from by
  have := split13_any A c [T1, T2] 1 (some ⟨g, 0, none⟩) 1 [⟨0, 0, 1, 9⟩] 3 4 w' hL h
  rw [split_yes13] at this; exact this)
 have HS2 := Lib.hid (fun (w' : World) (A : Option Addr) (c : Nat) (g : Nat) (hL : LtIn w' A c [T1, T2]) (h : RIn w' (some ⟨g, 0, none⟩) 1 [⟨1, 0, 2, 2⟩]) => show Calls Tryz.prog 32 #[.slice A 2 c, .int .i64 1, .slice (some ⟨g, 0, none⟩) 1 1, .int .i64 3, .int .i64 4] w' (OR13 [] 0 12 w') from by
  have := split13_any A c [T1, T2] 1 (some ⟨g, 0, none⟩) 1 [⟨1, 0, 2, 2⟩] 3 4 w' hL h
  rw [split_no13] at this; exact this)
 have HJ := Lib.hid (fun (w' : World) (A : Option Addr) (c : Nat) (g : Nat) (hL : LtIn w' A c [T2, T3, T4]) (h : NIn w' (some ⟨g, 0, none⟩) 2 [4, 2]) => show Calls Tryz.prog 34 #[.slice A 3 c, .slice (some ⟨g, 0, none⟩) 2 2, .int .i64 5] w' (OR13 [T3, T5] 2 0 w') from by
  have := join13_any A c [T2, T3, T4] (some ⟨g, 0, none⟩) 2 [4, 2] 5 w' hL h (by decide)
  rw [show [(4 : Int), 2].length = 2 from rfl, join_5] at this; exact this)
 have HOF := Lib.hid (fun (w' : World) (A : Option Addr) (c : Nat) (h : BxRow w' A BX13) => show Calls Tryz.prog 36 #[.slice A 1 c] w' (RS13 S13 1 0 w') from by
  have := bof_any A c BX13 w' h (by decide)
  rw [ex_13] at this; exact this)
 have HSM3 := Lib.hid (fun (w' : World) (A : Option Addr) (c : Nat) (A2 : Option Addr) (c2 : Nat) (h : LtIn w' A c [T2, T3, T4]) (h2 : LtIn w' A2 c2 [T2, T3, T4]) => show Calls Tryz.prog 14 #[.slice A 3 c, .slice A2 3 c2] w' (BlIs true w') from by
  have := msame_any A c A2 c2 [T2, T3, T4] [T2, T3, T4] w' h h2
  rw [sameB13_yes rfl] at this; exact this)
 have HSM2 := Lib.hid (fun (w' : World) (A : Option Addr) (c : Nat) (A2 : Option Addr) (c2 : Nat) (h : LtIn w' A c [T3, T5]) (h2 : LtIn w' A2 c2 [T3, T5]) => show Calls Tryz.prog 14 #[.slice A 2 c, .slice A2 2 c2] w' (BlIs true w') from by
  have := msame_any A c A2 c2 [T3, T5] [T3, T5] w' h h2
  rw [sameB13_yes rfl] at this; exact this)
 have HNR := Lib.hid (fun (w' : World) (A : Option Addr) (c : Nat) (h : LtIn w' A c [T1, T2]) => show Calls Tryz.prog 20 #[.slice A 2 c, .int .i64 1, .int .i64 0] w' (NR13 [2] 1 w') from by
  have := near13_any A c [T1, T2] 1 0 w' h
  rw [near_2] at this; exact this)
 have HSN := Lib.hid (fun (w' : World) (A : Option Addr) (c : Nat) (A2 : Option Addr) (c2 : Nat) (h : NIn w' A c [2]) (h2 : NIn w' A2 c2 [2]) => show Calls Tryz.prog 19 #[.slice A 1 c, .slice A2 1 c2] w' (BlIs true w') from by
  have := snums_any A c A2 c2 [2] [2] w' h h2
  rw [show decide ([(2 : Int)] = [2]) = true by decide] at this; exact this)
 have HP1 := Lib.hid (fun (w' : World) (A : Option Addr) (c : Nat) (A2 : Option Addr) (c2 : Nat) (h : EsIn w' A c E13) (h2 : SIn w' A2 c2 S13) => show Calls Tryz.prog 38 #[.slice A 1 c, .int .i64 1, .slice A2 1 c2] w' (BlIs false w') from by
  have := respect_any A c E13 1 A2 c2 S13 w' h h2
  rw [resp_1] at this; exact this)
 have HP2 := Lib.hid (fun (w' : World) (A : Option Addr) (c : Nat) (A2 : Option Addr) (c2 : Nat) (h : EsIn w' A c E13) (h2 : SIn w' A2 c2 S13) => show Calls Tryz.prog 38 #[.slice A 1 c, .int .i64 2, .slice A2 1 c2] w' (BlIs true w') from by
  have := respect_any A c E13 2 A2 c2 S13 w' h h2
  rw [resp_2] at this; exact this)
 have K := Lib.hid (Kp.start w)
 go_enter Tryz.func9, Tryz.ntmps9
 go_wp2_with fail
 refine (HON.out 0 0 4 2 _).mono ?_
 rintro e1 w1 ⟨g1, rfl, hr1, hb1⟩
 replace K := Lib.hid (K.out.add hb1 hr1.fut)
 clear hr1 hb1
 go_wp2_with fail
 refine (HA1.out _ _ (K.out.nth 0 rfl)).mono ?_
 rintro e2 w2 ⟨A2, c2, rfl, hr2, hb2⟩
 replace K := Lib.hid (K.out.add hb2 hr2.fut)
 clear hr2 hb2
 go_wp2_with fail
 refine (HON.out 4 0 6 2 _).mono ?_
 rintro e3 w3 ⟨g3, rfl, hr3, hb3⟩
 replace K := Lib.hid (K.out.add hb3 hr3.fut)
 clear hr3 hb3
 go_wp2_with fail
 refine (HA2.out _ _ _ _ (K.out.nth 1 rfl) (K.out.nth 0 rfl)).mono ?_
 rintro e4 w4 ⟨A4, c4, rfl, hr4, hb4⟩
 replace K := Lib.hid (K.out.add hb4 hr4.fut)
 clear hr4 hb4
 go_wp2_with fail
 refine (HON.out 0 0 1 9 _).mono ?_
 rintro e5 w5 ⟨g5, rfl, hr5, hb5⟩
 replace K := Lib.hid (K.out.add hb5 hr5.fut)
 clear hr5 hb5
 go_wp2_with fail
 refine (HS1.out _ _ _ _ (K.out.nth 1 rfl) (K.out.nth 0 rfl)).mono ?_
 rintro e6 w6 ⟨A6, c6, rfl, hr6, hb6⟩
 replace K := Lib.hid (K.out.add hb6 hr6.fut)
 clear hr6 hb6
 go_wp2_with fail
 replace K := Lib.hid (K.out.add ((Below.refl _ _).alloc (Nat.le_refl _) _) (show NIn _ _ _ [4, 2] from lit_nums _ [4, 2] _ rfl _ rfl (by simp)).fut)
 refine (HJ.out _ _ _ _ (K.out.nth 1 rfl) (K.out.nth 0 rfl)).mono ?_
 rintro e7 w7 ⟨A7, c7, rfl, hr7, hb7⟩
 replace K := Lib.hid (K.out.add hb7 hr7.fut)
 clear hr7 hb7
 go_wp2_with fail
 refine (HON.out 1 0 2 2 _).mono ?_
 rintro e8 w8 ⟨g8, rfl, hr8, hb8⟩
 replace K := Lib.hid (K.out.add hb8 hr8.fut)
 clear hr8 hb8
 go_wp2_with fail
 refine (HS2.out _ _ _ _ (K.out.nth 5 rfl) (K.out.nth 0 rfl)).mono ?_
 rintro e9 w9 ⟨A9, c9, rfl, hr9, hb9⟩
 replace K := Lib.hid (K.out.add hb9 hr9.fut)
 clear hr9 hb9
 go_wp2_with fail
 refine (HON.out 4 0 6 2 _).mono ?_
 rintro e10 w10 ⟨g10, rfl, hr10, hb10⟩
 replace K := Lib.hid (K.out.add hb10 hr10.fut)
 clear hr10 hb10
 go_wp2_with fail
 refine (HON.out 0 0 1 2 _).mono ?_
 rintro e11 w11 ⟨g11, rfl, hr11, hb11⟩
 replace K := Lib.hid (K.out.add hb11 hr11.fut)
 clear hr11 hb11
 go_wp2_with fail
 replace K := Lib.hid (K.out.add ((Below.refl _ _).alloc (Nat.le_refl _) _) (show NIn _ _ _ [1] from lit_nums _ [1] _ rfl _ rfl (by simp)).fut)
 refine (HON.out 1 0 4 2 _).mono ?_
 rintro e12 w12 ⟨g12, rfl, hr12, hb12⟩
 replace K := Lib.hid (K.out.add hb12 hr12.fut)
 clear hr12 hb12
 go_wp2_with fail
 replace K := Lib.hid (K.out.add ((Below.refl _ _).alloc (Nat.le_refl _) _) (show NIn _ _ _ [1] from lit_nums _ [1] _ rfl _ rfl (by simp)).fut)
 replace K := Lib.hid (K.out.add ((Below.refl _ _).alloc (Nat.le_refl _) _) (show LtIn _ _ 3 [T2, T3, T4] from lit_lots _ [(T2, ⟨some ⟨_, 0, none⟩, 1, none, 0⟩), (T3, ⟨some ⟨_, 0, none⟩, 1, some ⟨_, 0, none⟩, 1⟩), (T4, ⟨some ⟨_, 0, none⟩, 1, some ⟨_, 0, none⟩, 1⟩)] (fun t ht => by
  simp only [List.mem_cons, List.not_mem_nil, or_false] at ht
  rcases ht with rfl | rfl | rfl
  ·exact lti_nil (K.out.nth 4 rfl)
  ·exact lti_fr (K.out.nth 3 rfl) (K.out.nth 2 rfl)
  ·exact lti_fr (K.out.nth 1 rfl) (K.out.nth 0 rfl)) _ rfl (w12.heap.size + 1) (by rw [World.size_alloc]) (by simp)).fut)
 refine (HON.out 0 0 1 2 _).mono ?_
 rintro e13 w13 ⟨g13, rfl, hr13, hb13⟩
 replace K := Lib.hid (K.out.add hb13 hr13.fut)
 clear hr13 hb13
 go_wp2_with fail
 replace K := Lib.hid (K.out.add ((Below.refl _ _).alloc (Nat.le_refl _) _) (show NIn _ _ _ [1] from lit_nums _ [1] _ rfl _ rfl (by simp)).fut)
 refine (HON.out 1 0 6 2 _).mono ?_
 rintro e14 w14 ⟨g14, rfl, hr14, hb14⟩
 replace K := Lib.hid (K.out.add hb14 hr14.fut)
 clear hr14 hb14
 go_wp2_with fail
 replace K := Lib.hid (K.out.add ((Below.refl _ _).alloc (Nat.le_refl _) _) (show NIn _ _ _ [1, 2, 4] from lit_nums _ [1, 2, 4] _ rfl _ rfl (by simp)).fut)
 replace K := Lib.hid (K.out.add ((Below.refl _ _).alloc (Nat.le_refl _) _) (show LtIn _ _ 2 [T3, T5] from lit_lots _ [(T3, ⟨some ⟨_, 0, none⟩, 1, some ⟨_, 0, none⟩, 1⟩), (T5, ⟨some ⟨_, 0, none⟩, 1, some ⟨_, 0, none⟩, 3⟩)] (fun t ht => by
  simp only [List.mem_cons, List.not_mem_nil, or_false] at ht
  rcases ht with rfl | rfl
  ·exact lti_fr (K.out.nth 3 rfl) (K.out.nth 2 rfl)
  ·exact lti_fr (K.out.nth 1 rfl) (K.out.nth 0 rfl)) _ rfl (w14.heap.size + 1) (by rw [World.size_alloc]) (by simp)).fut)
 refine (HOF.out _ _ _ (lit_box13 _ ⟨⟨0, 0, 2, 2⟩, 0, 4⟩ _ (by rw [World.size_alloc, World.size_alloc]))).mono ?_
 rintro es ws ⟨As, cs, rfl, hrs, hbs⟩
 replace K := Lib.hid ((K.out.go ((Below.refl _ _).alloc (Nat.le_refl _) _)).add hbs hrs.fut)
 clear hrs hbs
 go_wp2_with fail
 refine (HON.out 0 0 1 1 _).mono ?_
 rintro e15 w15 ⟨g15, rfl, hr15, hb15⟩
 replace K := Lib.hid (K.out.add hb15 hr15.fut)
 clear hr15 hb15
 go_wp2_with fail
 replace K := Lib.hid (K.out.add ((Below.refl _ _).alloc (Nat.le_refl _) _) (show EsIn _ _ 1 E13 from lit_ease _ ⟨1, [⟨0, 0, 1, 1⟩], 3⟩ _ 1 (K.out.nth 0 rfl) _ rfl rfl).fut)
 refine (HSM3.out _ _ _ _ _ (K.out.nth 18 rfl) (K.out.nth 8 rfl)).mono ?_
 rintro e16 w16 ⟨rfl, hb16⟩
 replace K := Lib.hid (K.out.go hb16)
 clear hb16
 go_wp2_with fail
 refine (HSM2.out _ _ _ _ _ (K.out.nth 16 rfl) (K.out.nth 3 rfl)).mono ?_
 rintro e17 w17 ⟨rfl, hb17⟩
 replace K := Lib.hid (K.out.go hb17)
 clear hb17
 go_wp2_with fail
 refine (HNR.out _ _ _ (K.out.nth 20 rfl)).mono ?_
 rintro e18 w18 ⟨A18, c18, rfl, hr18, hb18⟩
 replace K := Lib.hid (K.out.add hb18 hr18.fut)
 clear hr18 hb18
 go_wp2_with fail
 replace K := Lib.hid (K.out.add ((Below.refl _ _).alloc (Nat.le_refl _) _) (show NIn _ _ _ [2] from lit_nums _ [2] _ rfl _ rfl (by simp)).fut)
 refine (HSN.out _ _ _ _ _ (K.out.nth 1 rfl) (K.out.nth 0 rfl)).mono ?_
 rintro e19 w19 ⟨rfl, hb19⟩
 replace K := Lib.hid (K.out.go hb19)
 clear hb19
 go_wp2_with fail
 refine (HP1.out _ _ _ _ _ (K.out.nth 2 rfl) (K.out.nth 4 rfl)).mono ?_
 rintro e20 w20 ⟨rfl, hb20⟩
 replace K := Lib.hid (K.out.go hb20)
 clear hb20
 go_wp2_with fail
 refine (HP2.out _ _ _ _ _ (K.out.nth 2 rfl) (K.out.nth 4 rfl)).mono ?_
 rintro e21 w21 ⟨rfl, hb21⟩
 replace K := Lib.hid (K.out.go hb21)
 clear hb21
 go_wp2_with fail
 go_ret
 exact ⟨rfl, K.out.2⟩
end Go.Proofs.YtngddecpfhlilaaGreat
