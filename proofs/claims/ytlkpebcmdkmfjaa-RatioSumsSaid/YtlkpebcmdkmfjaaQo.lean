/-
  The walk of RatioSums.
-/
import Derived.Test.YtlkpebcmdkmfjaaQk
import Derived.Test.YtlkpebcmdkmfjaaQj
import Derived.IntWalk
import Derived.Deep.DeepCutAuto
import Derived.Deep.LoopGhost
import Derived.Deep.RegionLaw
set_option linter.unusedVariables false
set_option maxRecDepth 100000
namespace Go.Proofs.Ytlkpebcmdkmfjaa
open Go.RowKit

def Good (x : Fr) : Prop := FOk x ∧ x.D ≤ 16 ∧ -100 ≤ x.N ∧ x.N ≤ 100
def sumT : List Fr → Int
  | [] => 0
  | x :: L => x.N * (720720 / x.D) + sumT L
theorem sumT_append (L M : List Fr) : sumT (L ++ M) = sumT L + sumT M := by
  induction L with
  | nil => simp [sumT]
  | cons x L ih => simp [sumT, ih]; omega
theorem div_common {d : Int} (h1 : 1 ≤ d) (h2 : d ≤ 16) : (720720 / d) * d = 720720 ∧ 0 ≤ 720720 / d ∧ 720720 / d ≤ 720720 := by
  have : d = 1 ∨ d = 2 ∨ d = 3 ∨ d = 4 ∨ d = 5 ∨ d = 6 ∨ d = 7 ∨ d = 8 ∨ d = 9 ∨ d = 10 ∨ d = 11 ∨ d = 12 ∨ d = 13 ∨ d = 14 ∨ d = 15 ∨ d = 16 := by omega
  rcases this with h | h | h | h | h | h | h | h | h | h | h | h | h | h | h | h <;> (subst h; decide)
theorem Good.val {x : Fr} (h : Good x) : FVal x (x.N * (720720 / x.D)) 720720 := by
  obtain ⟨hk, h2, _, _⟩ := h
  have := (div_common hk.1 h2).1
  refine ⟨hk, by decide, ?_⟩
  have e : x.N * 720720 = x.N * ((720720 / x.D) * x.D) := by rw [this]
  rw [e]; grind
theorem Good.bd {x : Fr} (h : Good x) : -72072000 ≤ x.N * (720720 / x.D) ∧ x.N * (720720 / x.D) ≤ 72072000 := by
  obtain ⟨hk, h2, h3, h4⟩ := h
  obtain ⟨_, q1, q2⟩ := div_common hk.1 h2
  have hm : (x.N * (720720 / x.D)).natAbs ≤ 100 * 720720 := by
    rw [Int.natAbs_mul]; exact Nat.mul_le_mul (by omega) (by omega)
  omega
theorem sumT_bd (L : List Fr) (h : ∀ x ∈ L, Good x) : -(72072000 * (L.length : Int)) ≤ sumT L ∧ sumT L ≤ 72072000 * (L.length : Int) := by
  induction L with
  | nil => simp [sumT]
  | cons x L ih =>
    have h1 := ih (fun y hy => h y (List.mem_cons_of_mem _ hy))
    have h2 := (h x List.mem_cons_self).bd
    simp only [sumT, List.length_cons, Int.natCast_succ]
    omega
theorem zF_val : FVal zF 0 720720 := ⟨zF_ok, by decide, by decide⟩

theorem FRow.below {w w' : World} {A : Option Addr} {l : List Fr} (h : FRow w A l) (hb : Below w.heap.size w w') : FRow w' A l := fun h0 => by
  obtain ⟨b, off, rfl, hl, hc⟩ := h h0
  exact ⟨b, off, rfl, Nat.lt_of_lt_of_le hl hb.size, fun j hj => ⟨(hb.cell (p := ⟨b, off + j * 2, none⟩) hl).trans (hc j hj).1, (hb.cell (p := ⟨b, off + j * 2 + 1, none⟩) hl).trans (hc j hj).2⟩⟩

/-- the first k are good. -/
def GoodTo (l : List Fr) (k : Nat) : Prop := ∀ x ∈ l.take k, Good x
theorem GoodTo.zero (l : List Fr) : GoodTo l 0 := fun x hx => by simp at hx
theorem take_next (l : List Fr) (k : Nat) (h : k < l.length) : l.take (k + 1) = l.take k ++ [l[k]] := by
  rw [List.take_succ_eq_append_getElem h]
theorem GoodTo.next {l : List Fr} {k : Nat} (h : GoodTo l k) (hk : k < l.length) (g : Good l[k]) : GoodTo l (k + 1) := fun x hx => by
  rw [take_next l k hk, List.mem_append] at hx
  rcases hx with hx | hx
  · exact h x hx
  · rw [List.mem_singleton] at hx; subst hx; exact g
theorem sumT_next (l : List Fr) (k : Nat) (h : k < l.length) : sumT (l.take (k + 1)) = sumT (l.take k) + l[k].N * (720720 / l[k].D) := by
  rw [take_next l k h, sumT_append]; simp [sumT]
theorem GoodTo.bd {l : List Fr} {k : Nat} (h : GoodTo l k) (hk : k ≤ 8) : -576576000 ≤ sumT (l.take k) ∧ sumT (l.take k) ≤ 576576000 := by
  have h1 := sumT_bd _ h
  have h2 : (l.take k).length ≤ k := List.length_take_le _ _
  omega

/-- what a call of Add in a round leaves: the sum at a new block. -/
def Got (x : Fr) (g : Nat) (wr w : World) : Prop := FrAt w g x ∧ wr.heap.size ≤ g ∧ Below wr.heap.size wr w
theorem got_behind {x : Fr} {wr w1 w' : World} (hb : Below w1.heap.size w1 w') (h : Below wr.heap.size wr w1) : Got x w'.heap.size wr (w'.alloc (.cells #[.int .i64 x.N, .int .i64 x.D] 23)) := by
  have h2 := h.trans (hb.mono h.size)
  exact ⟨FrAt.new _ _, h2.size, h2.alloc h2.size _⟩
theorem got_ahead {x z : Fr} {g : Nat} {wr w1 w' : World} (hb : Below w1.heap.size w1 w') (h : Below wr.heap.size wr w1) (hg : FrAt w1 g z) (hgr : wr.heap.size ≤ g) :
    Got x g wr ((w'.setCell ⟨g, 0, none⟩ (.int .i64 x.N)).setCell ⟨g, 1, none⟩ (.int .i64 x.D)) := by
  have h2 := h.trans (hb.mono h.size)
  exact ⟨(hg.below hb hg.lt).set x, hgr, (h2.setCell hgr _).setCell hgr _⟩

theorem keep_set {p : Nat} {s t x y : Fr} {w w' : World} (h : Keep [(p + 1, t), (p, s)] w w') (hp : w.heap.size ≤ p) :
    Keep [(p + 1, y), (p, x)] w ((((w'.setCell ⟨p, 0, none⟩ (.int .i64 x.N)).setCell ⟨p, 1, none⟩ (.int .i64 x.D)).setCell ⟨p + 1, 0, none⟩ (.int .i64 y.N)).setCell ⟨p + 1, 1, none⟩ (.int .i64 y.D)) :=
  ⟨((h.1.far (by omega)).far (by omega)).set y, ((h.2.1.set x).far (by omega)).far (by omega), (((h.below.setCell hp _).setCell hp _).setCell (by simp; omega) _).setCell (by simp; omega) _⟩
theorem good_to {l : List Fr} (h : ∀ x ∈ l, Good x) (k : Nat) : GoodTo l k := fun x hx => h x (List.mem_of_mem_take hx)
theorem sumT_drop (l : List Fr) (k : Nat) (h : k < l.length) : sumT (l.drop (l.length - (k + 1))) = sumT (l.drop (l.length - k)) + l[l.length - 1 - k].N * (720720 / l[l.length - 1 - k].D) := by
  have e : l.length - (k + 1) = l.length - 1 - k := by omega
  have e2 : l.length - k = l.length - 1 - k + 1 := by omega
  rw [e, e2, List.drop_eq_getElem_cons (i := l.length - 1 - k) (by omega)]
  simp only [sumT]; omega
theorem sumT_drop_bd {l : List Fr} (h : ∀ x ∈ l, Good x) (h8 : l.length ≤ 8) (m : Nat) : -576576000 ≤ sumT (l.drop m) ∧ sumT (l.drop m) ≤ 576576000 := by
  have h1 := sumT_bd (l.drop m) (fun x hx => h x (List.mem_of_mem_drop hx))
  have h2 : (l.drop m).length ≤ l.length := by rw [List.length_drop]; omega
  omega
theorem pair_zero {a : Fr × Int} (h : a.2 = 0) : a = (a.1, 0) := Prod.ext rfl h

set_option maxHeartbeats 16000000 in
theorem sums_walk (A : Option Addr) (cap : Nat) (l : List Fr) (w : World) (hl : l.length ≤ 9223372036854775807) (hok : ∀ x ∈ l, InF x) (hA : FRow w A l) : Calls Try.prog 8 #[.slice A l.length cap] w (BlIs true w) := by
  have HO := Lib.hid hok; clear hok
  have HA := Lib.hid hA; clear hA
  by_cases hmany : (8 : Int) < (l.length : Int)
  · go_enter Try.func8, Try.ntmps8
    go_wp2_with fail
    refine (small_any _).mono ?_
    rintro e w1 ⟨rfl, hb⟩
    have HB := Lib.hid hb; clear hb
    go_wp2
    go_ret
    exact ⟨rfl, HB.out⟩
  · have h8 : l.length ≤ 8 := by omega
    go_enter Try.func8, Try.ntmps8
    go_wp2_with fail
    refine (small_any _).mono ?_
    rintro e w1 ⟨rfl, hb⟩
    have HB := Lib.hid hb; clear hb
    go_wp2
    have K0 : Hid (Keep [(w1.heap.size + 1, zF), (w1.heap.size, zF)] w ((w1.alloc (.cells #[.int .i64 0, .int .i64 1] 23)).alloc (.cells #[.int .i64 0, .int .i64 1] 23))) :=
      Lib.hid (Keep.new' (Keep.new' ((Keep.nil w).go HB.out) zF _ rfl) zF _ (by simp))
    have hsz : w.heap.size ≤ w1.heap.size := HB.out.size
    clear HB
    generalize World.alloc (World.alloc w1 _) _ = w2 at *
    generalize w1.heap.size = p at *
    go_loopw [4, 7] (fun tot i wr => ∃ k : Nat, k ≤ l.length ∧ i = .int .i64 k ∧ tot = .int .i64 (sumT (l.take k)) ∧ Hid (GoodTo l k) ∧ Hid (Keep [(p + 1, zF), (p, zF)] w wr)) (fun _ i _ => l.length - (intOf i).toNat)
    case atStart => exact ⟨0, Nat.zero_le _, rfl, rfl, Lib.hid (GoodTo.zero l), K0⟩
    case round =>
      clear K0
      obtain ⟨k, hk, rfl, rfl, hG, hK⟩ := hrel
      by_cases hlt : k < l.length
      · obtain ⟨b, off, rfl, hb, hv⟩ := (HA.out.below hK.out.below) (by omega)
        obtain ⟨v0, v1⟩ := hv k hlt
        have hin := HO.out l[k] (List.getElem_mem hlt)
        obtain ⟨i1, i2⟩ := hin
        have hnx := sumT_next l k hlt
        have hgx := fun g => hG.out.next hlt g
        have hbd := hG.out.bd (by omega)
        have HNX := Lib.hid hnx; clear hnx
        clear hv
        generalize hT : sumT (l.take k) = T at *
        have HTT := Lib.hid hT; clear hT
        generalize l[k] = v at *
        have hi0 : (0 : Int) ≤ (k : Int) := by omega
        have hi1 : (k : Int) < (l.length : Int) := by omega
        have HGX := Lib.hid hgx; clear hgx
        go_wp2_with fail
        refine (rright_nd _ _ i1 i2 _).mono ?_
        rintro e w3 ⟨rfl, hb3⟩
        have v0' := (hb3.cell (p := ⟨b, off + k * 2, none⟩) hb).trans v0
        have v1' := (hb3.cell (p := ⟨b, off + k * 2 + 1, none⟩) hb).trans v1
        have K3 := Lib.hid (hK.out.go hb3)
        clear v0 v1 hb3 hK hb
        by_cases ho : FOk v
        · have hob : okB ⟨v.N, v.D⟩ = true := (okB_iff v).2 ho
          have d1 : 1 ≤ v.D := ho.1
          by_cases g2 : v.D ≤ 16
          · by_cases g3 : -100 ≤ v.N
            · by_cases g4 : v.N ≤ 100
              · have hgood : Good v := ⟨ho, g2, g3, g4⟩
                have hgb := hgood.bd
                have HG2 := Lib.hid (HGX.out hgood)
                obtain ⟨_, q1, q2⟩ := div_common d1 g2
                have q3 : (720720 : Int).tdiv v.D = 720720 / v.D := Int.tdiv_eq_ediv_of_nonneg (by omega)
                have hd0 : (v.D == 0) = false := by simp; omega
                clear hgood ho hG HGX
                generalize 720720 / v.D = Q at *
                have s1 : IntKind.i64.wrap Q = Q := IntWalk.i64_in _ (by omega)
                have s2 : IntKind.i64.wrap (v.N * Q) = v.N * Q := IntWalk.i64_in _ (by omega)
                have s3 : IntKind.i64.wrap (T + v.N * Q) = T + v.N * Q := IntWalk.i64_in _ (by omega)
                go_wp2_with fail
                go_quiet (fail)
                clear s1 s2 s3
                go_wp2_with fail
                go_roundw
                case rel => exact ⟨k + 1, by omega, by go_num, by rw [HNX.out], HG2, Lib.hid (K3.out.drewN _)⟩
                case measure => simp [intOf]; omega
              · go_wp2_with fail
                go_ret
                exact ⟨rfl, K3.out.below⟩
            · go_wp2_with fail
              go_ret
              exact ⟨rfl, K3.out.below⟩
          · go_wp2_with fail
            go_ret
            exact ⟨rfl, K3.out.below⟩
        · have hob : okB ⟨v.N, v.D⟩ = false := (okB_no v).2 ho
          clear ho
          go_wp2_with fail
          go_ret
          exact ⟨rfl, K3.out.below⟩
      · obtain rfl : k = l.length := by omega
        have hgood : ∀ x ∈ l, Good x := fun x hx => hG.out x (by simpa using hx)
        rw [List.take_length] at *
        have HGD := Lib.hid hgood
        clear hgood hG
        go_wp2_with fail
        go_loopg [8] l.length (fun gk i wr => ∃ (k : Nat) (s t : Fr), k + gk = l.length ∧ i = .int .i64 k ∧ Hid (FVal s (sumT (l.take k)) 720720) ∧ Hid (FVal t (sumT (l.drop (l.length - k))) 720720) ∧ Hid (Keep [(p + 1, t), (p, s)] w wr))
        case atStart => exact ⟨0, zF, zF, by omega, rfl, Lib.hid zF_val, Lib.hid (by rw [Nat.sub_zero, List.drop_length]; exact zF_val), hK⟩
        case round =>
          clear hK
          obtain ⟨k, s, t, hk, rfl, hS, hT, hK⟩ := hrel
          have hk1 : k + gk ≤ l.length := by omega
          have hk2 : l.length ≤ k + gk := by omega
          clear hk
          by_cases hlt : k < l.length
          · obtain ⟨b, off, hAA, hb, hv⟩ := (HA.out.below hK.out.below) (by omega)
            have hu : l.length - 1 - k < l.length := by omega
            obtain ⟨v0, v1⟩ := hv k hlt
            obtain ⟨u0, u1⟩ := hv (l.length - 1 - k) hu
            subst hAA
            have hi0 : (0 : Int) ≤ (k : Int) := by omega
            have hi1 : (k : Int) < (l.length : Int) := by omega
            have p0 := hK.out.2.1.cell0; have p1 := hK.out.2.1.cell1; have pl := hK.out.2.1.lt
            have hgv := HGD.out l[k] (List.getElem_mem hlt)
            have hgu := HGD.out l[l.length - 1 - k] (List.getElem_mem hu)
            have hs1 := sumT_next l k hlt
            have ht1 := sumT_drop l k hlt
            have hb1 := (good_to HGD.out (k + 1)).bd (by omega)
            have hb2 := sumT_drop_bd HGD.out h8 (l.length - (k + 1))
            obtain ⟨x0, xv⟩ := add_common hS.out hgv.val (by rw [← hs1]; omega)
            obtain ⟨y0, yv⟩ := add_common hT.out hgu.val (by rw [← ht1]; omega)
            rw [← hs1] at xv
            rw [← ht1] at yv
            have XV := Lib.hid xv
            have YV := Lib.hid yv
            have hAd := fun w => add_any s l[k] hS.out.1.inF hgv.1.inF w
            have hAe := fun w => add_any t l[l.length - 1 - k] hT.out.1.inF hgu.1.inF w
            rw [pair_zero x0] at hAd
            rw [pair_zero y0] at hAe
            clear hgv hgu hs1 ht1 hb1 hb2 x0 y0 xv yv
            generalize (addF s l[k]).1 = x at *
            generalize (addF t l[l.length - 1 - k]).1 = y at *
            have hex : ∃ v, v = l[k] := ⟨_, rfl⟩
            have heu : ∃ u, u = l[l.length - 1 - k] := ⟨_, rfl⟩
            obtain ⟨v, hve⟩ := hex
            obtain ⟨u, hue⟩ := heu
            rw [← hve] at v0 v1 hAd
            rw [← hue] at u0 u1 hAe
            have HAd := Lib.hid hAd
            have HAe := Lib.hid hAe
            have U0 := Lib.hid u0
            have U1 := Lib.hid u1
            clear hAd hAe hv hve hue u0 u1 hS hT
            go_upto_region 16 with fail
            go_cut [9, 10] (fun s9 s10 wx => ∃ g : Nat, s9 = .pointer (some ⟨g, 0, none⟩) ∧ s10 = .int .i64 0 ∧ Hid (Got x g wr wx))
            case first =>
              go_region_law ((go_simp; go_at_call 12; (with_reducible refine (HAd.out _).mono ?_); rintro e w' ⟨rfl, hb2⟩; obtain ⟨hc, hf⟩ := bcell hb2; have hz := hb2.size; have HBz := Lib.hid hb2; clear hb2))
              all_goals
                go_wp2_with fail
                go_meet
                first
                  | ((with_reducible refine ⟨_, rfl, rfl, Lib.hid (got_behind HBz.out ?_)⟩); exact below_drewN (Below.refl _ _) 1)
                  | ((with_reducible refine ⟨_, rfl, rfl, Lib.hid (got_ahead (z := ⟨0, 0⟩) HBz.out ?_ ?_ ?_)⟩)
                     · first | exact below_drewN ((Below.refl _ _).alloc (Nat.le_refl _) _) 1 | exact (below_drewN (Below.refl _ _) 1).alloc (Nat.le_refl _) _
                     · exact FrAt.new wr ⟨0, 0⟩
                     · exact Nat.le_refl _)
            obtain ⟨g, rfl, rfl, hX⟩ := hcut
            have hKc := Lib.hid (hK.out.go hX.out.2.2)
            have q0 := hKc.out.1.cell0; have q1 := hKc.out.1.cell1; have ql := hKc.out.1.lt
            have u0 := (hX.out.2.2.cell (p := ⟨b, off + (l.length - 1 - k) * 2, none⟩) hb).trans U0.out
            have u1 := (hX.out.2.2.cell (p := ⟨b, off + (l.length - 1 - k) * 2 + 1, none⟩) hb).trans U1.out
            have gl := hX.out.1.lt
            have gp : p + 1 < g := Nat.lt_of_lt_of_le hK.out.1.lt hX.out.2.1
            have hbc : b < wc.heap.size := Nat.lt_of_lt_of_le hb hX.out.2.2.size
            have n1 : IntKind.i64.wrap ((l.length : Int) - 1) = (l.length : Int) - 1 := IntWalk.i64_in _ (by omega)
            have n2 : IntKind.i64.wrap ((l.length : Int) - 1 - (k : Int)) = (l.length : Int) - 1 - (k : Int) := IntWalk.i64_in _ (by omega)
            have n3 : ((l.length : Int) - 1 - (k : Int)).toNat = l.length - 1 - k := by omega
            have n4 : (0 : Int) ≤ (l.length : Int) - 1 - (k : Int) := by omega
            have n5 : (l.length : Int) - 1 - (k : Int) < (l.length : Int) := by omega
            have n6 : (k : Int) ≤ (l.length : Int) - 1 := by omega
            clear p0 p1 pl v0 v1 U0 U1 HAd
            go_upto_region 17 with fail
            go_cut [11, 12] (fun s9 s10 wx => ∃ h : Nat, s9 = .pointer (some ⟨h, 0, none⟩) ∧ s10 = .int .i64 0 ∧ Hid (Got y h wc wx))
            case first =>
              go_region_law ((go_simp; go_at_call 12; (with_reducible refine (HAe.out _).mono ?_); rintro e w' ⟨rfl, hb2⟩; obtain ⟨hc, hf⟩ := bcell hb2; have hz := hb2.size; have HBz := Lib.hid hb2; clear hb2))
              all_goals
                clear n1 n2 n3 n4 n5 n6
                go_wp2_with fail
                go_meet
                first
                  | ((with_reducible refine ⟨_, rfl, rfl, Lib.hid (got_behind HBz.out ?_)⟩); exact below_drewN (Below.refl _ _) 1)
                  | ((with_reducible refine ⟨_, rfl, rfl, Lib.hid (got_ahead (z := ⟨0, 0⟩) HBz.out ?_ ?_ ?_)⟩)
                     · first | exact below_drewN ((Below.refl _ _).alloc (Nat.le_refl _) _) 1 | exact (below_drewN (Below.refl _ _) 1).alloc (Nat.le_refl _) _
                     · exact FrAt.new wc ⟨0, 0⟩
                     · exact Nat.le_refl _)
            obtain ⟨h, rfl, rfl, hY⟩ := hcut
            clear n1 n2 n3 n4 n5 n6 q0 q1 ql u0 u1
            have gx := hX.out.1.below hY.out.2.2 gl
            have g0 := gx.cell0; have g1 := gx.cell1; have h0 := hY.out.1.cell0; have h1 := hY.out.1.cell1
            have hKd := Lib.hid (hKc.out.go hY.out.2.2)
            have hgp : g ≠ p := by omega
            have hgp' : p ≠ g := by omega
            have hgq : g ≠ p + 1 := by omega
            have hge : wc.heap.size ≤ wc.heap.size := Nat.le_refl _
            have hh : p + 1 < h := Nat.lt_of_lt_of_le hKc.out.1.lt hY.out.2.1
            have hhp : h ≠ p := by omega
            have hhp' : p ≠ h := by omega
            have hhq : h ≠ p + 1 := by omega
            have e0 := hKd.out.1.cell0; have e1 := hKd.out.1.cell1; have e2 := hKd.out.2.1.cell0; have e3 := hKd.out.2.1.cell1
            have f0 := hKd.out.1.froz 0; have f1 := hKd.out.1.froz 1; have f2 := hKd.out.2.1.froz 0; have f3 := hKd.out.2.1.froz 1
            have hKE := Lib.hid (keep_set (x := x) (y := y) hKd.out hsz)
            clear hge hK hKc hKd hX hY gx HAe
            go_wp2_with fail
            go_roundg (gk - 1)
            case measure => omega
            case rel => exact ⟨k + 1, x, y, by omega, by go_num, XV, YV, hKE⟩
          · have hkl : k = l.length := by omega
            have hs := hS.out
            have ht := hT.out
            rw [hkl, List.take_length] at hs
            rw [hkl, Nat.sub_self, List.drop_zero] at ht
            obtain rfl := ht.uniq hs rfl
            have hb1 := sumT_bd l HGD.out
            obtain ⟨d1, d2, d3, d4, _⟩ := hs.1
            have he := hs.2.2
            generalize sumT l = T at *
            have he2 : (t.N * 720720 == T * t.D) = true := by rw [beq_iff_eq]; exact he
            have m1 := mul_bd (x := T) (y := t.D) (by omega) (by omega)
            have a0 := hK.out.1.cell0; have a1 := hK.out.1.cell1; have b0 := hK.out.2.1.cell0; have b1 := hK.out.2.1.cell1
            clear hkl hs ht he hS hT
            go_wp2_with fail
            go_ret
            exact ⟨rfl, hK.out.below⟩
end Go.Proofs.Ytlkpebcmdkmfjaa
