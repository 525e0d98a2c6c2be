/-
  Contracts of layer 13 (15): line.
  Contracts of layer 13 (21): Find, At.
-/
import Derived.Test.YtngddecpfhlilaaGreatC28
import Derived.Test.YtngddecpfhlilaaGreatC19
import Derived.Deep.RegionHeld3
import Derived.Test.YtngddecpfhlilaaGreatC30
import Derived.Test.YtngddecpfhlilaaGreatC29
import Derived.Laws.ResultCell
set_option linter.unusedVariables false
set_option maxRecDepth 100000
namespace Go.Proofs.YtngddecpfhlilaaGreat
open Go.RowKit
theorem tkL8 {v : Value} {P : Program} {ops : Array Oper} {Q : Exit → Act → World → Prop} {md : Region.Mode} {S : World → Prop} {i : Nat} {oi : Oper} {fuel : Nat} {listed : Array Bool} {a : Act} {w : World} (hi : ops[i]? = some oi) (h : wpAnyH P md ops Q S fuel (listed.setIfInBounds i true) (a.put oi.dst v) w) (hy : ∀ w, S w → (execOp a.eval oi).run P w = .ok (.value v) w := by (intro w hSw; (try dsimp only at hSw); go_simp); try with_reducible rfl) (hs : Region.noSelect ops = true := by kernel_rfl) (hf : Region.free md ops listed i = true := by kernel_rfl) (hr : (Region.ready md ops listed).contains i = true := by kernel_rfl) (hQ : ∀ c a w, Q (.panic c) (a.put oi.dst v) w → Q (.panic c) a w := by exact fun _ _ _ h => h) (hg : Region.wanted oi (yielded ops a.tmps) = true := by rfl) (hS : S w := by assumption) : wpAnyH P md ops Q S (fuel + 1) listed a w :=
 wpAnyH_take hi hs hf hr hQ (Or.inl ⟨hg, hy⟩) hS h
theorem sxL8 : (∀ (a : Act) (v : Value), a.put none v = a) ∧ (∀ (a : Act) (d : Tmp) (v : Value), a.put (some d) v = { a with tmps := a.tmps.setIfInBounds d v }) ∧ (∀ {α : Type} (l : List α) (i : Nat) (x : α), l.toArray.setIfInBounds i x = (l.set i x).toArray) ∧ (∀ {α : Type} (l : List α) (x y : α), (x :: l).set 0 y = y :: l) ∧ (∀ {α : Type} (l : List α) (x y : α) (n : Nat), (x :: l).set (n + 1) y = x :: l.set n y) :=
 ⟨fun _ _ => rfl, fun _ _ _ => rfl, fun _ _ _ => List.setIfInBounds_toArray .., fun _ _ _ => rfl, fun _ _ _ _ => rfl⟩
def idsL (L : List Lt) : List Int := L.flatMap fun t => t.id :: t.fr
def lineS (L : List Lt) : List Int := sortS (idsL L)
def Pl13 (g : Nat) (id : Int) (v : Value) (w0 w' : World) : Prop := w'.cell? ⟨g, 0, none⟩ = some (.int .i64 id) ∧ w'.cell? ⟨g, 3, none⟩ = some v ∧ g < w'.heap.size ∧ Hid (w0.heap.size ≤ w'.heap.size)
theorem Pl13.go {g : Nat} {id : Int} {v : Value} {w0 w w' : World} (h : Pl13 g id v w0 w) (hb : Below w.heap.size w w') : Pl13 g id v w0 w' :=
 ⟨(hb.cell (p := ⟨g, 0, none⟩) h.2.2.1).trans h.1, (hb.cell (p := ⟨g, 3, none⟩) h.2.2.1).trans h.2.1, Nat.lt_of_lt_of_le h.2.2.1 hb.size, Lib.hid (Nat.le_trans h.2.2.2.out hb.size)⟩
theorem Pl13.grow {g : Nat} {id : Int} {v : Value} {w0 w w' : World} {k : Option Nat} (h : Pl13 g id v w0 w) (hg : w.grownBy w' k) (hk : some g ≠ k) : Pl13 g id v w0 w' := by
 have e := hg.block g h.2.2.1 hk
 exact ⟨(World.cell?_of_block e).trans h.1, (World.cell?_of_block e).trans h.2.1, Nat.lt_of_lt_of_le h.2.2.1 hg.size, Lib.hid (Nat.le_trans h.2.2.2.out hg.size)⟩
theorem app_nums {o : Oper} {a : Act} {w : World} {K : Act → World → Prop} {Q : Exit → Act → World → Prop} (s x : Operand) (t : TypeId)
  (ho : o.op = .call { callee := .builtin .append, args := #[s, x], argTypes := #[31, 31] }) (base : Nat) (i : TypeInfo) (hi : Tryz.prog.info? 3 = some i) (hz : i.zero = some (.int .i64 0)) (hsize : i.size = 1) (hby : i.bytes = 8)
  (v : Value) (n : Nat) (xs : List Value) (hs : a.eval s = v) (hown : w.ownsRow base 3 1 v n xs) (B : Option Addr) (fr : List Int) (D : Nat) (hx : a.eval x = .slice B fr.length D) (hN : NIn w B D fr) (hn : B = none → D = 0)
  (h63 : n + fr.length ≤ maxLen) (hbytes : (n + fr.length) * 8 ≤ 140737488355328) (hbase : base ≤ w.heap.size)
  (h : ∀ v' w', w'.ownsRow base 3 1 v' (n + fr.length) (xs ++ icells fr) → w.grownBy w' v.ownBlock → K (a.put o.dst v') w') : o.wp Tryz.prog a w K Q := by
 cases B with
 | none =>
  have h0 := hn rfl
  subst h0
  have h3 : fr = [] := List.eq_nil_of_length_eq_zero (by have := hN.room; omega)
  subst h3
  have hrun := run_append_owned_none (P := Tryz.prog) (w := w) base 31 o.type 3 i 1 (by first | rfl | kernel_rfl) hi v n xs hown
  unfold Oper.wp
  have hx' : a.eval x = .slice none 0 0 := hx
  simp [execOp, ho, resolve, invoke, builtin, hs, hx', hrun, Result.andThen]
  exact h v w (by simpa [icells] using hown) (World.grownBy.refl _ _)
 | some ad => exact wp_append_own w s x 31 ho base 3 i (.int .i64 0) 1 8 Tryz.underlying31 hi hz hsize hby rfl (by decide) v n xs hs hown ad fr.length D (icells fr) hx (by simp [icells]) hN.news (fun u hu => by obtain ⟨z, _, rfl⟩ := List.mem_map.1 hu; rfl) h63 hbytes hbase (fun v' w' h2 h3 _ => h v' w' h2 h3)
def LnIs (L : List Lt) (w : World) (e : Ending) (w' : World) : Prop := ∃ A c, e = .returned (.slice A (lineS L).length c) ∧ NIn w' A c (lineS L) ∧ (0 < (lineS L).length → A ≠ none) ∧ Below w.heap.size w w'
set_option maxHeartbeats 32000000 in
theorem line_any (A : Option Addr) (cap : Nat) (L : List Lt) (w : World) (h : LtIn w A cap L) (hs : (idsL L).length ≤ 274877906944) : Calls Tryz.prog 79 #[.slice A L.length cap] w (LnIs L w) := by
 obtain ⟨i0, hi9, hz0, hz1, hz2⟩ := info_parts infoInt
 have HL := Lib.hid h; clear h
 have hlen := HL.out.len
 have HZA : Hid (∀ k, (idsL (L.take k)).length ≤ 274877906944) := Lib.hid (fun k => by
  have e : idsL L = idsL (L.take k) ++ idsL (L.drop k) := by unfold idsL; rw [← List.flatMap_append, List.take_append_drop]
  rw [e, List.length_append] at hs; omega)
 have HS := Lib.hid hs; clear hs
 go_enter Tryz.func79, Tryz.ntmps79
 go_wp2_with fail
 go_loopw [3, 8] (fun v i wr => ∃ (k : Nat) (a : Value), k ≤ L.length ∧ i = .int .i64 k ∧ a = v ∧ Hid (OwnI a (idsL (L.take k)) w wr)) (fun _ i _ => L.length - (intOf i).toNat)
 case atStart => exact ⟨0, _, Nat.zero_le _, rfl, rfl, Lib.hid ⟨World.ownsRow_nil _ _ _ _, Below.refl _ _⟩⟩
 case round =>
  obtain ⟨k, v, hk, rfl, rfl, HK⟩ := hrel
  by_cases hlt : k < L.length
  ·obtain ⟨b, o, p, rfl, hb, ⟨x0, x1, x2, x3⟩, hi⟩ := HL.out.at_ hlt
   have wc := fun o => HK.out.bel.cell (p := ⟨b, o, none⟩) hb
   have x0 := (wc _).trans x0; have x1 := (wc _).trans x1; have x2 := (wc _).trans x2; have x3 := (wc _).trans x3
   clear wc
   have n0 : (0 : Int) ≤ (k : Int) := by omega
   have n1 : (k : Int) < (L.length : Int) := by omega
   have hbs := HK.out.bel.size
   have HNI := Lib.hid (fun w' (hb : Below w.heap.size w w') => hi.fr.below hb)
   have HBN := Lib.hid hi.bn
   have HNX : Hid (idsL (L.take (k + 1)) = idsL (L.take k) ++ [L[k].id] ++ L[k].fr) := Lib.hid (by rw [← List.take_append_getElem hlt]; unfold idsL; rw [List.flatMap_append]; simp)
   have hza := HZA.out (k + 1)
   rw [HNX.out] at hza
   simp only [List.length_append, List.length_cons, List.length_nil] at hza
   clear hi
   generalize L[k] = u at *
   obtain ⟨id, ow, ar, fr⟩ := u
   obtain ⟨PA, PC, PB, PD⟩ := p
   simp only at x0 x1 x2 x3 HNI HBN HNX hza
   obtain ⟨F, hF⟩ : ∃ F, F = idsL (L.take k) := ⟨_, rfl⟩
   rw [← hF] at HK HNX hza
   clear hF
   obtain ⟨wg, hwg⟩ : ∃ wg, wg = wr.alloc (.cells #[.int .i64 id, .int .i64 ow, .slice PA ar.length PC, .slice PB fr.length PD] 40) := ⟨_, rfl⟩
   have hbg : Below wr.heap.size wr wg := by rw [hwg]; exact (Below.refl _ _).alloc (Nat.le_refl _) _
   have hat : LtAt wg wr.heap.size ⟨id, ow, ar, fr⟩ ⟨PA, PC, PB, PD⟩ := by rw [hwg]; exact LtAt.new wr ⟨id, ow, ar, fr⟩ ⟨PA, PC, PB, PD⟩ wr.heap.size rfl rfl rfl
   have HKG := Lib.hid (⟨own_go HK.out.own hbg, HK.out.bel.trans (hbg.mono hbs)⟩ : OwnI v F w wg)
   have HGL : Hid (∀ kk, v.ownBlock = some kk → kk < wr.heap.size) := Lib.hid (fun kk e => (HK.out.own.lt kk e).2)
   have HWG := Lib.hid hwg
   have E5 : Hid (Pl13 wr.heap.size id (.slice PB fr.length PD) wg wg) := Lib.hid ⟨hat.c.1, hat.c.2.2.2, hat.lt, Lib.hid (Nat.le_refl _)⟩
   have hsg := hbg.size
   have hgl := hat.lt
   have HLAT := Lib.hid hat
   clear hat hwg hbg HK
   go_upto_region 5 with fail
   rw [← HWG.out]
   clear HWG
   obtain ⟨g, hg⟩ : ∃ g, g = wr.heap.size := ⟨_, rfl⟩
   rw [← hg] at E5 HGL hgl HLAT
   simp only [← hg]
   have hgg : g < wg.drew.heap.size + 1 := by have : wg.drew.heap.size = wg.heap.size := rfl; omega
   clear hg x0 x1 x2 x3
   have HOW : Hid ((wg.drew.alloc (.cells #[.int .i64 id] 3)).ownsRow w.heap.size 3 1 v F.length (icells F)) := Lib.hid ((HKG.out.drewN 1).own.alloc _)
   have HSZ : Hid (w.heap.size ≤ (wg.drew.alloc (.cells #[.int .i64 id] 3)).heap.size) := Lib.hid (by have := HKG.out.bel.size; simp; exact Nat.le_succ_of_le this)
   have HSZ2 : Hid (w.heap.size ≤ wg.heap.size) := Lib.hid HKG.out.bel.size
   have HAP : Hid (some g ≠ v.ownBlock) := Lib.hid (fun e => by have := HGL.out g e.symm; omega)
   have HGROW : Hid (∀ v6 w6, w6.ownsRow w.heap.size 3 1 v6 (F.length + 1) (icells F ++ [.int .i64 id]) → (wg.drew.alloc (.cells #[.int .i64 id] 3)).grownBy w6 v.ownBlock → (w6.ownsRow w.heap.size 3 1 v6 (F.length + 1) (icells F ++ [.int .i64 id]) ∧ some g ≠ v6.ownBlock ∧ (Pl13 g id (.slice PB fr.length PD) wg w6 → NIn w6 PB PD fr)) ∧ Below w.heap.size w w6) := Lib.hid (fun v6 w6 ho hgr => by
    have hb6 : Below w.heap.size w w6 := (HKG.out.bel.trans (((below_drewN (Below.refl _ wg) 1).alloc (Nat.le_refl _) _).mono HKG.out.bel.size)).grown hgr HSZ.out (fun kk e => (HOW.out.lt kk e).1)
    refine ⟨⟨ho, fun e => ?_, fun _ => HNI.out w6 hb6⟩, hb6⟩
    have h1 : w6.heap[g]? = some (.cells #[.int .i64 id, .int .i64 ow, .slice PA ar.length PC, .slice PB fr.length PD] 40 (0, 0)) := (hgr.block g (by rw [World.size_alloc]; exact hgg) HAP.out).trans ((((below_drewN (Below.refl _ wg) 1).alloc (Nat.le_refl _) (.cells #[.int .i64 id] 3)).block g hgl).trans HLAT.out)
    rcases ho.2 with ⟨e1, _⟩ | ⟨g2, cap2, cur2, e1, _, h2, _⟩
    ·rw [e1] at e; cases e
    ·rw [e1] at e
     have e2 : g = g2 := by simpa [Value.ownBlock] using e
     subst e2
     rw [h1] at h2
     cases h2)
   have HFIN : Hid (∀ v6 w6 v8 w8, (w6.ownsRow w.heap.size 3 1 v6 (F.length + 1) (icells F ++ [.int .i64 id]) ∧ some g ≠ v6.ownBlock ∧ (Pl13 g id (.slice PB fr.length PD) wg w6 → NIn w6 PB PD fr)) → Below w.heap.size w w6 → w8.ownsRow w.heap.size 3 1 v8 (F.length + 1 + fr.length) (icells F ++ [.int .i64 id] ++ icells fr) → w6.grownBy w8 v6.ownBlock → OwnI v8 (idsL (L.take (k + 1))) w w8) := Lib.hid (fun v6 w6 v8 w8 h6 hb6 h8 hg8 => by
    refine ⟨?_, hb6.grown hg8 hb6.size (fun kk e => (h6.1.lt kk e).1)⟩
    rw [HNX.out, List.length_append, List.length_append, show icells (F ++ [id] ++ fr) = icells F ++ [.int .i64 id] ++ icells fr by simp [icells]]
    exact h8)
   clear hgg
   refine wp_region_held_drew (S := (fun w' => w'.cell? ⟨g, 0, none⟩ = some (.int .i64 id) ∧ w'.cell? ⟨g, 3, none⟩ = some (.slice PB fr.length PD) ∧ g < w'.heap.size ∧ Hid (wg.heap.size ≤ w'.heap.size))) (by kernel_rfl) ?_ (fun hHeld => ?_)
   ·exact E5.out.go (below_drewN (Below.refl _ _) 1)
   refine tkL8 (i := 0) (oi := ⟨some 12, .move (.tmp 3), 31, "parcel.go:211", #[], none⟩) rfl ?_
   try simp only [sxL8]
   refine tkL8 (i := 1) (oi := ⟨some 13, .fieldAddr 40 (.tmp 5) 0, 0, "parcel.go:211", #[], none⟩) rfl ?_
   try simp only [sxL8]
   refine tkL8 (i := 2) (oi := ⟨some 14, .load 3 (.tmp 13), 3, "parcel.go:211", #[⟨1, .data⟩], none⟩) rfl ?_
   try simp only [sxL8]
   refine tkL8 (i := 5) (oi := ⟨some 17, .fieldAddr 40 (.tmp 5) 3, 0, "parcel.go:211", #[], none⟩) rfl ?_
   try simp only [sxL8]
   refine tkL8 (i := 6) (oi := ⟨some 18, .load 31 (.tmp 17), 31, "parcel.go:211", #[⟨5, .data⟩], none⟩) rfl ?_
   try simp only [sxL8]
   refine wpAnyH_ready (rs := [3]) (by kernel_rfl) (by simp) ?_
   refine AllReadyH.cons (o := ⟨some 15, .buildSlice 31 1 #[(0, .tmp 14)], 31, "parcel.go:211", #[⟨2, .data⟩], none⟩) rfl (fun Kx hKx => ?_) AllReadyH.nil
   go_simp
   refine hKx.out _ _ (Pl13.go ‹_› ((Below.refl _ _).alloc (Nat.le_refl _) _)) (fun hHeld2 => ?_)
   clear hKx Kx hHeld
   have hHeld := hHeld2; clear hHeld2
   try simp only [sxL8]
   refine wpAnyH_ready (rs := [4]) (by kernel_rfl) (by simp) ?_
   refine AllReadyH.cons (o := ⟨some 16, .call { callee := .builtin .append, args := #[.tmp 12, .tmp 15], argTypes := #[31, 31] }, 31, "parcel.go:211", #[⟨0, .data⟩, ⟨3, .data⟩], none⟩) rfl (fun Kx hKx => ?_) AllReadyH.nil
   try simp only [sxL8]
   refine wp_append_own _ (Operand.tmp 12) (Operand.tmp 15) 31 rfl w.heap.size 3 i0 (.int .i64 0) 1 8 Tryz.underlying31 hi9 hz0 hz1 hz2 rfl (by decide) v F.length (icells F) rfl HOW.out ⟨wg.drew.heap.size, 0, none⟩ 1 1 [.int .i64 id] rfl rfl ?d1 ?d2 ?d3 ?d4 ?d5 ?_
   case d1 => exact World.news_of_block (cs := #[.int .i64 id]) (t := 3) (fr := (0, 0)) (heap_alloc_new wg.drew _)
   case d2 => intro u hu; simp only [List.mem_cons, List.not_mem_nil, or_false] at hu; rcases hu with rfl; rfl
   case d3 => unfold maxLen; omega
   case d4 => omega
   case d5 => exact HSZ.out
   intro v6 w6 hown6 hgr6 _
   have HW6 := Lib.hid (HGROW.out v6 w6 hown6 hgr6)
   refine hKx.out _ _ (Pl13.grow ‹_› hgr6 HAP.out) (fun hHeld2 => ?_)
   clear hKx Kx hHeld hown6 hgr6
   have hHeld := hHeld2; clear hHeld2
   try simp only [sxL8]
   refine wpAnyH_ready (rs := [7]) (by kernel_rfl) (by simp) ?_
   refine AllReadyH.cons (o := ⟨some 19, .call { callee := .builtin .append, args := #[.tmp 16, .tmp 18], argTypes := #[31, 31] }, 31, "parcel.go:211", #[⟨4, .data⟩, ⟨6, .data⟩, ⟨4, .chain⟩], none⟩) rfl (fun Kx hKx => ?_) AllReadyH.nil
   try simp only [sxL8]
   obtain ⟨⟨ho6, hap6, hnx6⟩, hb66⟩ := HW6.out
   refine app_nums (Operand.tmp 16) (Operand.tmp 18) 31 rfl w.heap.size i0 hi9 hz0 hz1 hz2 v6 (F.length + 1) (icells F ++ [.int .i64 id]) rfl ho6 PB fr PD rfl (hnx6 hHeld) HBN.out ?e3 ?e4 ?e5 ?_
   case e3 => unfold maxLen; omega
   case e4 => omega
   case e5 => have := hHeld.2.2.2.out; have := HSZ2.out; omega
   intro v8 w8 hown8 hgr8
   have HW8 := Lib.hid (HFIN.out v6 w6 v8 w8 HW6.out.1 HW6.out.2 hown8 hgr8)
   refine hKx.out _ _ (Pl13.grow ‹_› hgr8 hap6) (fun hHeld2 => ?_)
   clear hKx Kx hHeld hown8 hgr8 ho6 hap6 hnx6 hb66
   have hHeld := hHeld2; clear hHeld2
   try simp only [sxL8]
   refine tkL8 (i := 8) (oi := ⟨some 3, .assign (.tmp 19), 31, "parcel.go:211", #[⟨7, .data⟩, ⟨7, .chain⟩, ⟨0, .phase⟩, ⟨1, .phase⟩, ⟨2, .phase⟩, ⟨3, .phase⟩, ⟨4, .phase⟩, ⟨5, .phase⟩, ⟨6, .phase⟩, ⟨7, .phase⟩], none⟩) rfl ?_
   try simp only [sxL8]
   refine wpAnyH_done (by kernel_rfl) ?_ _
   clear hHeld
   go_wp2_with fail
   go_roundw
   case rel => exact ⟨k + 1, v8, by omega, by go_num, rfl, HW8⟩
   case measure => simp [intOf]; omega
  ·obtain rfl : k = L.length := by omega
   rw [List.take_length] at HK
   obtain ⟨A9, c9, rfl, h1, h2, _⟩ := own_parts13 HK.out.own
   have HAS := Lib.hid (asc_any A9 c9 (idsL L) wr (own_nin HK.out.own (by have := HS.out; omega)))
   have HB := Lib.hid HK.out.bel
   clear HK
   generalize (idsL L).length = n9 at *
   go_wp2_with fail
   refine HAS.out.mono ?_
   rintro e w9 ⟨A8, c8, rfl, hn, hgg, hb⟩
   have HF : Hid (LnIs L w (.returned (.slice A8 (sortS (idsL L)).length c8)) w9) := Lib.hid ⟨A8, c8, rfl, hn, fun h => by obtain ⟨g, e, _⟩ := hgg h; rw [e]; simp, HB.out.trans (hb.mono HB.out.size)⟩
   clear hn hb HAS hgg
   go_wp2_with fail
   go_ret
   obtain ⟨A2, c2, e2, h2, h4, h5⟩ := HF.out
   exact ⟨A2, c2, e2, h2.below (by (repeat' first | exact Below.refl _ _ | assumption | (apply below_drewN) | (refine Below.setCell ?_ (by (try simp); (try omega)) _) | (refine Below.alloc ?_ (by (try simp); (try omega)) _) | (refine Below.trans ?_ (Below.mono (Hid.out (by assumption)) (by (try simp); (try omega)))))), h4, h5.trans (by (repeat' first | exact Below.refl _ _ | assumption | (apply below_drewN) | (refine Below.setCell ?_ (by (try simp); (try omega)) _) | (refine Below.alloc ?_ (by (try simp); (try omega)) _) | (refine Below.trans ?_ (Below.mono (Hid.out (by assumption)) (by (try simp); (try omega))))))⟩
end Go.Proofs.YtngddecpfhlilaaGreat
namespace Go.Proofs.YtngddecpfhlilaaGreat
open Go.RowKit
theorem rct_row {P : Program} {fn : Func} {p u : Tmp} {ty : TypeId} (h : fn.results = #[.cell p ty, .tmp u]) (tmps : Array Value) (w : World) (g : Nat) (t : TypeId) (cs : Array Value) (fr : Nat × Nat) (d : TypeDesc)
  (hp : tmps.getD p undef = .pointer (some ⟨g, 0, none⟩)) (hg : w.heap[g]? = some (.cells cs t fr))
  (hu : P.underlying ty = some d) (hd : (match d with | .struct _ | .array _ _ => true | _ => false) = true) (hi : (P.info? ty).map (·.size) = some cs.size) :
  (results fn tmps).run P w = .ok (.tuple #[.agg cs, tmps.getD u undef]) w := by
 have hp' : tmps[p]?.getD undef = .pointer (some ⟨g, 0, none⟩) := by simpa using hp
 rw [results_cell_tmp h]
 simp [hp', asAddr, run_loadVar_row w g t ty cs fr d hg hu hd hi, Result.andThen]
def lt0 : Lt := ⟨0, 0, [], []⟩
def FdR (x : Option Lt) (w : World) (e : Ending) (w' : World) : Prop := ∃ p, e = .returned (.tuple #[lvl (x.getD lt0) p, .bool x.isSome]) ∧ LtI w' (x.getD lt0) p ∧ Below w.heap.size w w'
theorem find_at {L : List Lt} {k : Nat} {x : Int} (hk : k < L.length) (h : ∀ j (hj : j < L.length), j < k → L[j].id ≠ x) (e : L[k].id = x) : findL L x = some L[k] := by
 unfold findL
 refine List.find?_eq_some_iff_getElem.2 ⟨by simpa using e, k, hk, rfl, fun j hj => ?_⟩
 simpa using h j (by omega) hj
theorem find_no {L : List Lt} {x : Int} (h : ∀ j (hj : j < L.length), L[j].id ≠ x) : findL L x = none := by
 unfold findL
 refine List.find?_eq_none.2 (fun t ht c => ?_)
 obtain ⟨j, hj, rfl⟩ := List.getElem_of_mem ht
 exact h j hj (by simpa using c)
theorem LvOwn.lti {B : Nat} {t : Lt} {p : LtP} {w : World} (h : LvOwn B ⟨t, p⟩ w) (hs : LtS t) : LtI w t p := ⟨own_rin h.ar hs.1, own_nin h.fr hs.2, own_none h.ar, own_none h.fr⟩
theorem LvOwn.stays {B : Nat} {x : LtV} {w w' : World} (h : LvOwn B x w) (hk : ∀ g, B ≤ g → w'.heap[g]? = w.heap[g]?) : LvOwn B x w' := ⟨own_stays h.ar (fun g hg => hk g (h.ar.lt g hg).1), own_stays h.fr (fun g hg => hk g (h.fr.lt g hg).1)⟩
set_option maxHeartbeats 16000000 in
theorem find13_any (A : Option Addr) (cap : Nat) (L : List Lt) (x : Int) (w : World) (h : LtIn w A cap L) :
  Calls Tryz.prog 22 #[.slice A L.length cap, .int .i64 x] w (FdR (findL L x) w) := by
 have HL := Lib.hid h; clear h
 have hlen := HL.out.len
 have HZ0 := Lib.hid (heap_alloc_new w (.cells #[.int .i64 0, .int .i64 0, .slice none 0 0, .slice none 0 0] 40))
 have HB0 : Hid (Below w.heap.size w (w.alloc (.cells #[.int .i64 0, .int .i64 0, .slice none 0 0, .slice none 0 0] 40))) := Lib.hid ((Below.refl _ _).alloc (Nat.le_refl _) _)
 obtain ⟨g, hg⟩ : ∃ g, g = w.heap.size := ⟨_, rfl⟩
 have HG := Lib.hid hg
 go_enter Tryz.func22, Tryz.ntmps22
 go_wp2_with fail
 rw [← hg] at HZ0 ⊢
 generalize w.alloc (.cells #[.int .i64 0, .int .i64 0, .slice none 0 0, .slice none 0 0] 40) = w0 at *
 clear hg
 go_loopw [10] (fun i wr => ∃ (k : Nat), k ≤ L.length ∧ i = .int .i64 k ∧ Hid (∀ j (hj : j < L.length), j < k → L[j].id ≠ x) ∧ Hid (wr.heap[g]? = some (.cells #[.int .i64 0, .int .i64 0, .slice none 0 0, .slice none 0 0] 40 (0, 0)) ∧ Below w.heap.size w wr)) (fun i _ => L.length - (intOf i).toNat)
 case atStart => exact ⟨0, Nat.zero_le _, rfl, Lib.hid (fun j hj h => by omega), Lib.hid ⟨HZ0.out, HB0.out⟩⟩
 case round =>
  clear HZ0 HB0
  obtain ⟨k, hk, rfl, HN, HW⟩ := hrel
  by_cases hlt : k < L.length
  ·obtain ⟨b, o, p, rfl, hb, hc, hi⟩ := HL.out.at_ hlt
   obtain ⟨x0, x1, x2, x3⟩ := hc.below hb HW.out.2
   have HI := Lib.hid (fun w' (hb : Below w.heap.size w w') => hi.below hb)
   have n0 : (0 : Int) ≤ (k : Int) := by omega
   have n1 : (k : Int) < (L.length : Int) := by omega
   have HFA := Lib.hid (find_at hlt HN.out)
   have HNX : Hid (L[k].id ≠ x → ∀ j (hj : j < L.length), j < k + 1 → L[j].id ≠ x) := Lib.hid (fun hne j hj hjk => by
    by_cases e : j = k
    ·subst e; exact hne
    ·exact HN.out j hj (by omega))
   have HLS := Lib.hid hi.s
   clear hc hi HN
   generalize L[k] = t at *
   have HCL := Lib.hid (fun w' (hb : Below w.heap.size w w') => clone_any t p w' (HI.out w' hb))
   obtain ⟨id, ow, ar, fr⟩ := t
   obtain ⟨PA, PC, PB, PD⟩ := p
   unfold lvl at HCL
   simp only at x0 x1 x2 x3 HCL HFA HNX
   by_cases c : id = x
   ·have HF := Lib.hid (HFA.out c)
    clear HNX HFA
    subst c
    have hgw : g < wr.heap.size := (Array.getElem?_eq_some_iff.1 HW.out.1).1
    have hba : Below wr.heap.size wr (wr.alloc (.cells #[.int .i64 id, .int .i64 ow, .slice PA ar.length PC, .slice PB fr.length PD] 40)) := (Below.refl _ _).alloc (Nat.le_refl _) _
    have HBA := Lib.hid (HW.out.2.trans (hba.mono HW.out.2.size))
    have HGA : Hid ((wr.alloc (.cells #[.int .i64 id, .int .i64 ow, .slice PA ar.length PC, .slice PB fr.length PD] 40)).heap[g]? = some (.cells #[.int .i64 0, .int .i64 0, .slice none 0 0, .slice none 0 0] 40 (0, 0))) := Lib.hid ((hba.block g hgw).trans HW.out.1)
    clear hba
    go_wp2_with fail
    refine (HCL.out _ HBA.out).mono ?_
    rintro e w5 ⟨⟨QA, QC, QB, QD⟩, rfl, ho, hb5⟩
    have hs : g < (wr.alloc (.cells #[.int .i64 id, .int .i64 ow, .slice PA ar.length PC, .slice PB fr.length PD] 40)).heap.size := (Array.getElem?_eq_some_iff.1 HGA.out).1
    have hz : w5.heap[g]? = some (.cells #[.int .i64 0, .int .i64 0, .slice none 0 0, .slice none 0 0] 40 (0, 0)) := (hb5.block g hs).trans HGA.out
    have HB5 := Lib.hid (HBA.out.trans (hb5.mono HBA.out.size))
    have HO := Lib.hid ho
    have HGS := Lib.hid hs
    have HZ := Lib.hid hz
    have z0 : w5.cell? ⟨g, 0, none⟩ = some (.int .i64 0) := by rw [Lib.cell_of_heap hz]; rfl
    have z1 : w5.cell? ⟨g, 1, none⟩ = some (.int .i64 0) := by rw [Lib.cell_of_heap hz]; rfl
    have z2 : w5.cell? ⟨g, 2, none⟩ = some (.slice none 0 0) := by rw [Lib.cell_of_heap hz]; rfl
    have z3 : w5.cell? ⟨g, 3, none⟩ = some (.slice none 0 0) := by rw [Lib.cell_of_heap hz]; rfl
    have f0 := Lib.frozen_of_heap hz 0; have f1 := Lib.frozen_of_heap hz 1; have f2 := Lib.frozen_of_heap hz 2; have f3 := Lib.frozen_of_heap hz 3
    have gl := (Array.getElem?_eq_some_iff.1 hz).1
    clear ho hs hz hb5 x0 x1 x2 x3
    unfold lvl
    simp only
    go_wp2_with fail
    refine bodyPost_ret (rct_row rfl _ _ g 40 #[.int .i64 id, .int .i64 ow, .slice QA ar.length QC, .slice QB fr.length QD] (0, 0) _ rfl ?_ Tryz.underlying40 rfl (by kernel_rfl)) rfl ?_
    ·have hz := HZ.out
     simp [World.setCell, Array.getElem?_modify, hz, Array.setIfInBounds]
    ·rw [HF.out]
     refine ⟨⟨QA, QC, QB, QD⟩, rfl, LvOwn.lti (B := _) (HO.out.stays (fun g2 hg2 => ?_)) HLS.out, ?_⟩
     ·have hne : g2 ≠ g := by have := HGS.out; omega
      repeat rw [set_other _ _ _ _ (by exact hne)]
     ·have hgb := HG.out
      have := HB5.out
      repeat' first | assumption | refine Below.setCell ?_ (by simp only; omega) _
   ·have HN2 := Lib.hid (HNX.out c)
    clear HNX HFA HCL
    go_wp2_with fail
    go_roundw
    case rel => exact ⟨k + 1, by omega, by go_num, HN2, Lib.hid ⟨((((Below.refl _ _).alloc (Nat.le_refl _) _).block g (Array.getElem?_eq_some_iff.1 HW.out.1).1)).trans HW.out.1, HW.out.2.trans (((Below.refl _ _).alloc (Nat.le_refl _) _).mono HW.out.2.size)⟩⟩
    case measure => simp [intOf]; omega
  ·obtain rfl : k = L.length := by omega
   have HF := Lib.hid (find_no (fun j hj => HN.out j hj hj))
   have hz := HW.out.1
   have HZ := Lib.hid hz
   have z0 : wr.cell? ⟨g, 0, none⟩ = some (.int .i64 0) := by rw [Lib.cell_of_heap hz]; rfl
   have z1 : wr.cell? ⟨g, 1, none⟩ = some (.int .i64 0) := by rw [Lib.cell_of_heap hz]; rfl
   have z2 : wr.cell? ⟨g, 2, none⟩ = some (.slice none 0 0) := by rw [Lib.cell_of_heap hz]; rfl
   have z3 : wr.cell? ⟨g, 3, none⟩ = some (.slice none 0 0) := by rw [Lib.cell_of_heap hz]; rfl
   have f0 := Lib.frozen_of_heap hz 0; have f1 := Lib.frozen_of_heap hz 1; have f2 := Lib.frozen_of_heap hz 2; have f3 := Lib.frozen_of_heap hz 3
   have gl := (Array.getElem?_eq_some_iff.1 hz).1
   clear hz HN
   go_wp2_with fail
   refine bodyPost_ret (rct_row rfl _ _ g 40 #[.int .i64 0, .int .i64 0, .slice none 0 0, .slice none 0 0] (0, 0) _ rfl ?_ Tryz.underlying40 rfl (by kernel_rfl)) rfl ?_
   ·have hz := HZ.out
    simp [World.setCell, Array.getElem?_modify, hz, Array.setIfInBounds]
   ·rw [HF.out]
    refine ⟨⟨none, 0, none, 0⟩, rfl, ⟨(⟨fun h => absurd h (by simp), by simp, Nat.le_refl _, by omega⟩ : RIn _ none 0 []), NIn.nil _, fun _ => rfl, fun _ => rfl⟩, ?_⟩
    have hgb := HG.out
    have := HW.out.2
    repeat' first | assumption | refine Below.setCell ?_ (by simp only; omega) _
end Go.Proofs.YtngddecpfhlilaaGreat
