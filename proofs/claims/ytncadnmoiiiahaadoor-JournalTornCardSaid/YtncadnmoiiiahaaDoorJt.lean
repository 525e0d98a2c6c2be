/-
  The walk of JournalTorn.
-/
import Derived.Test.YtncadnmoiiiahaaDoorJz
import Derived.Lib.MinMax
import Derived.Deep.RegionLaw
import Derived.Deep.RegionHeld3
import Derived.BigRegion
set_option linter.unusedVariables false
set_option maxRecDepth 100000
namespace Go.Proofs.YtncadnmoiiiahaaDoor
open Go.RowKit W

theorem add_t (g q : Nat) : (⟨g, 0, none⟩ : Addr).add q = ⟨g, q, none⟩ := by unfold Addr.add; split <;> simp_all
theorem in1 : In64 1 := by unfold In64; omega
theorem ok0 : Dk.fileOk 0 := by unfold Dk.fileOk; omega
theorem ok1 : Dk.fileOk 1 := by unfold Dk.fileOk; omega
theorem put_none (s : List UInt8) : put [] 0 s = s := by have := put_end [] s; simpa using this
theorem ext_part (s : ByteArray) (a n : Nat) : (s.extract a (a + n)).data.toList = (s.data.toList.drop a).take n := by
  rw [ByteArray.data_extract, Array.toList_extract, List.extract_eq_take_drop, Nat.add_sub_cancel_left]
theorem bs_ne {a b : ByteArray} (h : a ≠ b) : (a.toList == b.toList) = false := by
  rw [beq_eq_false_iff_ne]
  intro e
  rw [ByteArray.toList_eq, ByteArray.toList_eq] at e
  exact h (ByteArray.ext (Array.toList_inj.1 e))
theorem str_eq {a b : ByteArray} (h : a.data.toList = b.data.toList) : a = b := ByteArray.ext (Array.toList_inj.1 h)
theorem drewN_add (w : World) (a b : Nat) : (w.drewN a).drewN b = w.drewN (a + b) := by
  simp [World.drewN, Nat.add_assoc]
theorem bw_drew {w0 w' : World} (h : Hid (Below w0.heap.size w0 w')) (n : Nat) : Hid (Below w0.heap.size w0 (w'.drewN n)) := Lib.hid (h.out.trans ((below_drew w' n).mono h.out.size))
theorem bw_go {w0 w1 w2 : World} (h : Hid (Below w0.heap.size w0 w1)) (hb : Below w1.heap.size w1 w2) : Hid (Below w0.heap.size w0 w2) := Lib.hid (h.out.trans (hb.mono h.out.size))
theorem own_slice2 {w : World} {B e size n : Nat} {v : Value} {xs : List Value} (h : w.ownsRow B e size v n xs) : ∃ A cap, v = .slice A n cap ∧ True := by
  rcases h.2 with ⟨rfl, rfl⟩ | ⟨g, cap, cur, rfl, _⟩
  · exact ⟨none, 0, rfl, trivial⟩
  · exact ⟨_, cap, rfl, trivial⟩
theorem srow_take {w : World} {A : Option Addr} {l : List ByteArray} {LB : List (List UInt8)} (h : LB = l.map fun s => s.data.toList) (hA : SRow w A l) (k : Nat) : TRow (fun _ => False) w A (LB.take k) := fun h0 => by
  subst h
  rw [List.length_take, List.length_map] at h0
  obtain ⟨b, off, rfl, hb, hc⟩ := hA (by omega)
  refine ⟨b, off, rfl, hb, (fun h => h), fun j hj => ?_⟩
  rw [List.length_take, List.length_map] at hj
  rw [hc j (by omega)]
  simp [vStr, bs]
/-- the law's bytes. -/
structure BZ (g n cap : Nat) (Z : List UInt8) (w0 w : World) : Prop where
  row : BRow w w0.heap.size (.slice (some ⟨g, 0, none⟩) n cap) Z
  bel : Below w0.heap.size w0 w
theorem BZ.go {g n cap : Nat} {Z : List UInt8} {w0 w w' : World} (h : BZ g n cap Z w0 w) (hb : Below w.heap.size w w') : BZ g n cap Z w0 w' := ⟨h.row.kept hb, h.bel.trans (hb.mono h.bel.size)⟩
theorem BZ.put {g n cap : Nat} {Z : List UInt8} {w0 w : World} (h : BZ g n cap Z w0 w) (j : Nat) : BZ g n cap (Z.set j 0) w0 (w.setCell ⟨g, j, none⟩ (.int .u8 0)) := by
  refine ⟨h.row.stored 0, ?_⟩
  obtain ⟨g', cap', hv, _, hB, _⟩ := h.row.parts
  simp only [Value.slice.injEq, Option.some.injEq, Addr.mk.injEq, and_true] at hv
  obtain ⟨rfl, _⟩ := hv
  exact h.bel.setCell (show w0.heap.size ≤ (⟨g, j, none⟩ : Addr).block from hB) _
set_option maxHeartbeats 64000000 in
theorem jtorn_walk (A : Option Addr) (cA : Nat) (l : List ByteArray) (size : Int) (B : Option Addr) (cB : Nat) (zero : List Int) (w : World) (hcA : l.length ≤ cA) (hA : SRow w A l) (hz : ∀ x ∈ l, x.size ≤ 9223372036854775807) (hl : l.length ≤ 9223372036854775807) (h64 : In64 size) (hB : JRow w B zero) (hBi : ∀ x ∈ zero, In64 x) (hBl : zero.length ≤ 9223372036854775807) (ht : Tab w) :
    Calls Tryd.prog 3 #[.slice A l.length cA, .int .i64 size, .slice B zero.length cB] w fun e w' => e = .returned (.bool true) ∧ Below w.heap.size w w' := by
  obtain ⟨i0, hi0, hz0, hz1, hz2⟩ := info_parts infoInt
  have HT := Lib.hid ht; have HA := Lib.hid hA; have HB := Lib.hid hB; have HZ := Lib.hid hz
  unfold In64 at h64
  clear ht hA hB hz hBi
  go_enter Tryd.func3, Tryd.ntmps3
  go_wp2_with fail
  refine (jsmall_any w HT.out).mono ?_
  rintro e w1 ⟨rfl, b1⟩
  have B1 := Lib.hid b1; clear b1
  go_wp2_with fail
  refine (jtexts_any A cA l w1 hl HZ.out (HA.out.below B1.out)).mono ?_
  rintro e w2 ⟨b, rfl, hb, b2⟩
  have B2 := Lib.hid (B1.out.trans (b2.mono B1.out.size)); clear b2 B1 HZ
  cases b with
  | false =>
    clear hb
    go_wp2_with fail
    go_ret
    exact ⟨rfl, B2.out⟩
  | true =>
    obtain ⟨hl8, hz200⟩ := hb rfl
    have HZ200 := Lib.hid hz200
    clear hb hz200 hl
    by_cases h50 : 50 < zero.length
    · have h50' : (50 : Int) < (zero.length : Int) := by omega
      go_wp2_with fail
      go_ret
      exact ⟨rfl, B2.out⟩
    have h50' : (zero.length : Int) ≤ 50 := by omega
    obtain ⟨LB, hLB⟩ : ∃ LB : List (List UInt8), LB = l.map fun s => s.data.toList := ⟨_, rfl⟩
    have HLB := Lib.hid hLB
    have hL200 : ∀ t ∈ LB, t.length ≤ 200 := fun t ht => by
      rw [hLB] at ht
      obtain ⟨x, hx, rfl⟩ := List.mem_map.1 ht
      rw [list_size]; exact HZ200.out x hx
    obtain ⟨ll, hll⟩ : ∃ ll, ll = l.length := ⟨_, rfl⟩
    have HLL : Hid (LB.length = ll ∧ ll = l.length ∧ ll ≤ cA ∧ ll ≤ 8) := Lib.hid ⟨by rw [hLB, List.length_map, hll], hll, by omega, by omega⟩
    have HFK : Hid (∀ k, (forms (LB.take k)).length ≤ 1928) := Lib.hid (fun k => by
      have h1 := forms_pre (List.take_prefix k LB)
      have h2 := forms_small LB hL200
      have h3 := HLL.out.1
      have h4 := HLL.out.2.2.2
      omega)
    have HL400 : Hid (∀ t ∈ LB, t.length ≤ 400) := Lib.hid (fun t ht => by have := hL200 t ht; omega)
    have hll8 : ll ≤ 8 := by omega
    rw [← hll]
    clear hLB hL200 hll hl8 hcA
    go_wp2_with fail
    refine (hNew B2.out).mono ?_
    rintro e w3 ⟨r, L0, rfl, hh, _, _⟩
    have H3 := Lib.hid hh; clear hh
    obtain ⟨o1, o2, o3⟩ := jopen_up Dk.up_new Dk.ok_new ok0 rfl
    have hr0 : recs (Dk.new.now 0) = [] := rfl
    rw [hr0] at o2 o3
    have O3 := Lib.hid o3; have O1 := Lib.hid o1; have O2 := Lib.hid o2
    clear o1 o2 o3 hr0
    go_wp2_with fail
    refine (hOpen_ok2 H3.out (by omega) in0 O1.out).mono ?_
    rintro e w4 ⟨L4, rj, v4, rfl, h4, _⟩
    rw [O2.out] at h4
    have HE0 : Hid (JE w r L4 (jopen Dk.new 0).1 0 rj v4 0 (LB.take 0) (.slice none 0 0) (endsT LB 0) w4) := Lib.hid ⟨h4, World.ownsRow_nil _ _ _ _, fun g hg => by simp [Value.ownBlock] at hg⟩
    have HU0 : Hid (Dk.Up (jopen Dk.new 0).1 ∧ (jopen Dk.new 0).1.now 0 = forms (LB.take 0) ∧ (jopen Dk.new 0).1.now 1 = [] ∧ (jopen Dk.new 0).1.lost = 0) := Lib.hid ⟨O3.out.up, O3.out.kept.now, O3.out.other 1 (by decide), O3.out.lost⟩
    clear h4 H3 O1 O2 O3
    generalize (jopen Dk.new 0).1 = d0 at *
    go_wp2_with fail
    go_loopw [11, 12] (fun en ii wr => ∃ (k : Nat) (ve : Value) (d : Dk) (L : Lay) (v : Value) (n : Nat), k ≤ ll ∧ ii = .int .i64 k ∧ ve = en ∧ n ≤ k * 300 ∧ Hid (Dk.Up d ∧ d.now 0 = forms (LB.take k) ∧ d.now 1 = [] ∧ d.lost = 0) ∧ Hid (JE w r L d n rj v 0 (LB.take k) ve (endsT LB k) wr)) (fun _ ii _ => ll - (intOf ii).toNat)
    case atStart => exact ⟨0, _, d0, L4, v4, 0, Nat.zero_le _, rfl, rfl, Nat.zero_le _, HU0, HE0⟩
    case round =>
      clear HE0 HU0
      obtain ⟨k, ve, d, L, v, n, hk, rfl, rfl, hn, HUP, HE⟩ := hrel
      by_cases hlt : k < ll
      · have hkl : k < l.length := by have := HLL.out; omega
        obtain ⟨bl, ol, rfl, hbl, hcl⟩ := HA.out (by omega)
        have hx := hcl k hkl
        obtain ⟨x, hxe⟩ : ∃ x, x = l[k] := ⟨_, rfl⟩
        rw [← hxe] at hx
        have hx200 : x.size ≤ 200 := by rw [hxe]; exact HZ200.out _ (List.getElem_mem hkl)
        have hxw := (HE.out.jh.bel.cell (p := ⟨bl, ol + k, none⟩) hbl).trans hx
        have hLBk : LB.take (k + 1) = LB.take k ++ [x.data.toList] := by
          have h1 : k < LB.length := by have := HLL.out; omega
          rw [List.take_succ_eq_append_getElem h1]
          congr 2
          have h2 := HLB.out
          subst h2
          simp [hxe]
        have hfk := HFK.out k
        have hfl := form_len x.data.toList (by rw [list_size]; omega)
        rw [list_size] at hfl
        obtain ⟨d2, a1, a2⟩ := jappend_up HUP.out.1 ok0 HUP.out.2.1 (s := x.data.toList) (by rw [list_size]; omega) (by omega)
        rw [← hLBk] at a1 a2
        have A1 := Lib.hid a1
        have HUP2 : Hid (Dk.Up d2 ∧ d2.now 0 = forms (LB.take (k + 1)) ∧ d2.now 1 = [] ∧ d2.lost = 0) := Lib.hid ⟨a2.up, by rw [a2.now, upd_same], by rw [a2.now, upd_other (by decide)]; exact HUP.out.2.2.1, a2.lost.trans HUP.out.2.2.2⟩
        have k0 : (0 : Int) ≤ (k : Int) := by omega
        have k1 : (k : Int) < (ll : Int) := by omega
        have hEN := ends_succ LB k
        have HEN := Lib.hid hEN
        clear a1 a2 hx hxe hcl hLBk hfl HUP hEN
        go_wp2_with fail
        refine (hAppend2 HE.out.jh (by omega) in0 HT.out x (by omega) (by omega) A1.out).mono ?_
        rintro e w5 ⟨rfl, L5, v5, h5, kv5, k5⟩
        have HE5 := Lib.hid (HE.out.step h5 kv5 k5); clear h5 kv5 k5 HE A1 hxw
        go_wp2_with fail
        refine (mSize HE5.out.jh.disk in0).mono ?_
        rintro e w6 ⟨he, rfl⟩
        rw [HUP2.out.2.1] at he
        subst he
        have hal : Below w6.heap.size w6 (w6.alloc (.cells #[.int .i64 ((forms (LB.take (k + 1))).length : Int)] 3)) := (Below.refl _ _).alloc (Nat.le_refl _) _
        have HE6 := Lib.hid (HE5.out.below hal)
        have HO := Lib.hid HE6.out.row
        have hws := HE6.out.jh.bel.size
        rw [ends_len] at HO
        have hk8 : k ≤ 8 := by omega
        clear hal HE5
        generalize (forms (LB.take (k + 1))).length = fk at *
        go_wp2_with (at_builtin; refine wpList_append_own_at _ rfl _ _ 23 rfl w.heap.size 3 i0 (.int .i64 0) 1 8 Tryd.underlying23 hi0 hz0 hz1 hz2 rfl (by decide) _ _ _ rfl HO.out ⟨w6.heap.size, 0, none⟩ 1 1 [.int .i64 (fk : Int)] rfl rfl ?c1 ?c2 ?c3 ?c4 ?c5 ?_)
        case c1 =>
          intro t u htt
          match t, htt with
          | 0, htt => simp at htt; subst htt; simp [Addr.add]
        case c2 => intro u hu; simp at hu; subst hu; rfl
        case c3 => unfold maxLen; omega
        case c4 => omega
        case c5 => first | omega | (simp at hws ⊢; omega)
        intro v7 w7 hown' hgr _ hat
        have HE7 : Hid (JE w r L5 d2 (n + x.size + 50) rj v5 0 (LB.take (k + 1)) v7 (endsT LB (k + 1)) w7) := Lib.hid (by
          refine HE6.out.append hgr ?_ (by rcases hat with h | h; exact Or.inl h; exact Or.inr (by rw [h]; simp))
          rw [HEN.out, List.length_append, ends_len, show tcells (endsT LB k ++ [(fk : Int)]) = tcells (endsT LB k) ++ [.int .i64 (fk : Int)] by simp [tcells]]
          exact hown')
        clear hown' hgr hat HO HE6
        go_wp2_with fail
        go_roundw
        case rel => exact ⟨k + 1, v7, d2, L5, v5, n + x.size + 50, by omega, by go_num, rfl, by omega, HUP2, HE7⟩
        case measure => simp [intOf]; omega
      · obtain rfl : k = ll := by omega
        have htk : LB.take k = LB := by rw [List.take_of_length_le (by have := HLL.out; omega)]
        rw [htk] at HUP HE
        obtain ⟨sz, hsz⟩ : ∃ sz, sz = (forms LB).length := ⟨_, rfl⟩
        have hszb : sz ≤ 1928 := by have := HFK.out k; rw [htk, ← hsz] at this; exact this
        have HSZ : Hid ((forms LB).length = sz) := Lib.hid hsz.symm
        have hrd := Dk.read_part ok0 HUP.out.1.down (f := 0) (a := 0) (n := (sz : Int)) (by omega) (by omega)
        rw [HUP.out.2.1, Int.toNat_zero, List.drop_zero, Int.toNat_natCast, List.take_of_length_le (by omega)] at hrd
        have HRD := Lib.hid hrd
        obtain ⟨ll, hllk⟩ : ∃ ll, ll = k := ⟨_, rfl⟩
        subst hllk
        clear hrd htk
        go_wp2_with fail
        refine (mSize HE.out.jh.disk in0).mono ?_
        rintro e w6 ⟨he, rfl⟩
        rw [HUP.out.2.1, ← hsz] at he
        subst he
        clear hsz
        go_wp2_with fail
        refine (jRead HE.out.jh (by omega) in0 in0 (by unfold In64; omega)).mono ?_
        rintro e w7 ⟨sB, he, hsB, h7, hb7⟩
        rw [HRD.out] at he hsB
        subst he
        have HE7 := Lib.hid (HE.out.below hb7)
        have HSB : Hid (sB.data.toList = forms LB) := Lib.hid hsB
        have hsbz : sB.size = sz := by rw [← list_size, hsB]; exact HSZ.out
        clear h7 hb7 HE HRD hsB
        have hcv := fun w s => run_bytes_of_string (P := Tryd.prog) w 9 36 5 s Tryd.underlying9 Tryd.underlying36 Tryd.underlying5
        have hbr := brow_fresh w7 sB 0
        have HBR0 : Hid (BZ w7.heap.size sz (grownCap w7 sB.size 0 5) (forms LB) w7 (w7.drew.alloc (.cells (bytesRow sB (grownCap w7 sB.size 0 5)) 5 ((bytesRow sB (grownCap w7 sB.size 0 5)).size, (bytesRow sB (grownCap w7 sB.size 0 5)).size + 1)))) := Lib.hid ⟨by rw [← HSB.out, ← hsbz]; exact hbr, (Below.refl _ w7).trans ((⟨rfl, rfl, rfl, Nat.le_refl _, fun _ _ => rfl⟩ : Below w7.heap.size w7 w7.drew).alloc (Nat.le_refl _) _)⟩
        clear hbr
        go_wp2_with fail
        clear hcv
        try rw [hsbz]
        rw [hsbz] at HBR0
        generalize grownCap w7 sz 0 5 = cap at *
        generalize hg : w7.heap.size = g at *
        have HG := Lib.hid hg; clear hg
        have HE := HE7; clear HE7
        by_cases hzl : 0 < zero.length
        · skip
          have dz : decide ((0 : Int) < (zero.length : Int)) = true := decide_eq_true (by omega)
          have dzn : decide (0 < zero.length) = true := decide_eq_true hzl
          obtain ⟨bz, oz, rfl, hbz, hcz⟩ := HB.out hzl
          have HCZ := Lib.hid hcz; clear hcz
          go_loopw [16] (fun ii wr => ∃ (k : Nat) (Z : List UInt8), k ≤ sz ∧ ii = .int .i64 k ∧ Z.length = sz ∧ Hid (∀ j, j < Z.length → bt Z j = bt (forms LB) j ∨ bt Z j = 0) ∧ Hid (BZ g sz cap Z w7 wr)) (fun ii _ => sz - (intOf ii).toNat)
          case atStart => exact ⟨0, forms LB, Nat.zero_le _, rfl, HSZ.out, Lib.hid (fun _ _ => Or.inl rfl), HBR0⟩
          case round =>
            clear HBR0
            obtain ⟨k, Z, hk, rfl, hZl, HZP, HBZ⟩ := hrel
            by_cases hlt : k < sz
            · have k0 : (0 : Int) ≤ (k : Int) := by omega
              have k1 : (k : Int) < (sz : Int) := by omega
              have kw : IntKind.i64.wrap ((k : Int) + 1) = (k : Int) + 1 := IntWalk.i64_in _ (by omega)
              obtain ⟨q, hq⟩ : ∃ q, q = k / 64 := ⟨_, rfl⟩
              have q1 : (k : Int) / 64 = (q : Int) := by omega
              have q2 : (k : Int).tdiv 64 = (q : Int) := by rw [Int.tdiv_eq_ediv_of_nonneg (by omega)]; omega
              have q3 : IntKind.i64.wrap (q : Int) = (q : Int) := IntWalk.i64_in _ (by omega)
              obtain ⟨mm, hmm⟩ : ∃ mm, mm = q % zero.length := ⟨_, rfl⟩
              have hml : mm < zero.length := by rw [hmm]; exact Nat.mod_lt _ hzl
              have q4 : (q : Int) % (zero.length : Int) = (mm : Int) := by rw [hmm]; omega
              have q5 : (q : Int).tmod (zero.length : Int) = (mm : Int) := by rw [Int.tmod_eq_emod_of_nonneg (by omega)]; exact q4
              have q6 : (0 : Int) ≤ (mm : Int) := by omega
              have q7 : (mm : Int) < (zero.length : Int) := by omega
              have hne : ((zero.length : Int) == 0) = false := by rw [beq_eq_false_iff_ne]; omega
              have hne2 : (zero.length : Int) ≠ 0 := by omega
              have hcz := HCZ.out mm hml
              obtain ⟨zx, hzx⟩ : ∃ zx, zx = zero[mm] := ⟨_, rfl⟩
              rw [← hzx] at hcz
              have hbel := HE.out.jh.bel
              have hczw : wr.cell? ⟨bz, oz + mm, none⟩ = some (.int .i64 zx) := (HBZ.out.bel.cell (p := ⟨bz, oz + mm, none⟩) (Nat.lt_of_lt_of_le hbz hbel.size)).trans ((hbel.cell (p := ⟨bz, oz + mm, none⟩) hbz).trans hcz)
              have ha1 := and_one zx
              clear hcz hzx hmm hq hbel
              by_cases hodd : zx % 2 = 1
              · rw [hodd] at ha1
                obtain ⟨g9, c9, hv9, hg9, _, hcl9, hfr9, hc9⟩ := HBZ.out.row.parts
                simp only [Value.slice.injEq, Option.some.injEq, Addr.mk.injEq, and_true] at hv9
                obtain ⟨rfl, hzz, rfl⟩ := hv9; clear hzz
                have hck := hcl9 k (by omega)
                have hfk := (hfr9 k (by omega)).2
                have HZ2 := Lib.hid (zero_one (i := k) (by omega) (by rw [hZl, HSZ.out]) HZP.out)
                have hB2 := HBZ.out.put k
                have HB2 := Lib.hid hB2
                clear hcl9 hfr9 hB2 hodd
                go_wp2_with fail
                go_roundw
                case rel => exact ⟨k + 1, Z.set k 0, by omega, by go_num, by rw [List.length_set]; exact hZl, Lib.hid HZ2.out.2, HB2⟩
                case measure => simp [intOf]; omega
              · have ha2 : zx % 2 = 0 := by omega
                rw [ha2] at ha1
                clear hodd ha2
                go_wp2_with fail
                go_roundw
                case rel => exact ⟨k + 1, Z, by omega, by go_num, hZl, HZP, HBZ⟩
                case measure => simp [intOf]; omega
            · obtain rfl : k = sz := by omega
              obtain ⟨sz, hsk⟩ : ∃ sz, sz = k := ⟨_, rfl⟩
              subst hsk
              have HAT := Lib.hid (rfl : (0 : Nat) = 0); clear HAT
              obtain ⟨m, hm⟩ : ∃ m : Nat, m = (max 0 (min size (sz : Int))).toNat := ⟨_, rfl⟩
              have hmI : max 0 (min size (sz : Int)) = (m : Int) := by omega
              have hmI2 : max (min size (sz : Int)) 0 = (m : Int) := by omega
              have hml : m ≤ sz := by omega
              clear hm
              obtain ⟨C, hC⟩ : ∃ C, C = Z.take m := ⟨_, rfl⟩
              obtain ⟨tn, htn⟩ : ∃ tn : ByteArray, tn = ⟨C.toArray⟩ := ⟨_, rfl⟩
              have HTN : Hid (tn.data.toList = C) := Lib.hid (by rw [htn])
              have hCl : C.length = m := by rw [hC, List.length_take]; omega
              have htsz : tn.size = m := by rw [← list_size, HTN.out, hCl]
              have HDAM : Hid (Dam C (forms LB)) := Lib.hid (by rw [hC]; exact dam_cut (by rw [hZl, HSZ.out]) HZP.out m)
              obtain ⟨g9, c9, hv9, hg9, hgB9, hcl9, hfr9, hc9⟩ := HBZ.out.row.parts
              simp only [Value.slice.injEq, Option.some.injEq, Addr.mk.injEq, and_true] at hv9
              obtain ⟨rfl, hzz, rfl⟩ := hv9; clear hzz
              have hcv2 : (convert 36 9 (.slice (some ⟨g, 0, none⟩) m cap)).run Tryd.prog wr = .ok (.string tn) wr := by
                have := run_convert_bytes_back (P := Tryd.prog) wr 36 9 5 ⟨g, 0, none⟩ cap C Tryd.underlying36 Tryd.underlying5 Tryd.underlying9 (fun q hq => by
                  rw [add_t, hcl9 q (by omega)]
                  simp [hC])
                rw [hCl, ← htn] at this
                exact this
              have hm0 : (0 : Int) ≤ (m : Int) := by omega
              have hmc : (m : Int) ≤ (cap : Int) := by omega
              have hmz : (m : Int) ≤ (sz : Int) := by omega
              have HJ0 := Lib.hid (HE.out.below HBZ.out.bel)
              clear htn hC HZP HBZ hg9 hgB9 hcl9 hfr9 hc9 HE
              go_wp2_with fail
              clear hcv2 hmI hmI2
              go_loopw [18] (fun kk wx => ∃ (k q : Nat), k ≤ ll ∧ kk = .int .i64 k ∧ wx = wr.drewN q ∧ Hid (Stands LB C k)) (fun kk _ => ll - (intOf kk).toNat)
              case atStart => exact ⟨0, 0, Nat.zero_le _, rfl, rfl, Lib.hid (stands_zero _ _)⟩
              case round =>
                obtain ⟨k, q, hk, rfl, rfl, HST⟩ := hrel
                have HJ := Lib.hid (HJ0.out.below (below_drew wr q))
                have k0 : (0 : Int) ≤ (k : Int) := by omega
                have kw : IntKind.i64.wrap ((k : Int) + 1) = (k : Int) + 1 := IntWalk.i64_in _ (by omega)
                by_cases hlt : k < ll
                · have k1 : (k : Int) < (ll : Int) := by omega
                  have d1 : decide ((k : Int) < (ll : Int)) = true := decide_eq_true k1
                  have d1n : decide (k < ll) = true := decide_eq_true hlt
                  obtain ⟨ek, hek⟩ : ∃ ek, ek = (forms (LB.take (k + 1))).length := ⟨_, rfl⟩
                  obtain ⟨ge, ce, hve, hgeB, hgel⟩ := HJ.out.row.form (by rw [ends_len]; omega)
                  rw [ends_len] at hve
                  subst hve
                  have hce : wr.cell? ⟨ge, k, none⟩ = some (.int .i64 (ek : Int)) := by
                    show (wr.drewN q).cell? ⟨ge, k, none⟩ = _
                    have h1 := HJ.out.row
                    rw [ends_len] at h1
                    rw [h1.cellAt k (by omega), ends_at LB ll k hlt, hek]
                  have HAT := Lib.hid hek
                  have hekF : ek ≤ sz := by rw [hek, ← HSZ.out]; exact forms_pre (List.take_prefix _ _)
                  have e0 : (0 : Int) ≤ (ek : Int) := by omega
                  have e1 : (ek : Int) ≤ (sz : Int) := by omega
                  by_cases hc1 : ek ≤ m
                  · have e2 : (ek : Int) ≤ (m : Int) := by omega
                    have d2 : decide ((ek : Int) ≤ (m : Int)) = true := decide_eq_true e2
                    have d2n : decide (ek ≤ m) = true := decide_eq_true hc1
                    by_cases hcc : tn.extract 0 ek = sB.extract 0 ek
                    · have HSN : Hid (Stands LB C (k + 1)) := Lib.hid (by
                        refine stands_next (by rw [← HAT.out, hCl]; exact hc1) ?_
                        rw [← HAT.out]
                        have h2 : (tn.extract 0 ek).data.toList = (sB.extract 0 ek).data.toList := by rw [hcc]
                        rw [show (tn.extract 0 ek) = tn.extract 0 (0 + ek) by rw [Nat.zero_add], show (sB.extract 0 ek) = sB.extract 0 (0 + ek) by rw [Nat.zero_add], ext_part, ext_part, List.drop_zero, List.drop_zero, HTN.out, HSB.out] at h2
                        exact h2)
                      clear hek HST HJ
                      go_wp2_with fail
                      go_quiet (fail)
                      go_wp2_with fail
                      go_roundw
                      case rel => exact ⟨k + 1, _, by omega, by go_num, rfl, HSN⟩
                      case measure => simp [intOf]; omega
                    · have hne := bs_ne hcc
                      have HREC : Hid (recs C = LB.take k) := Lib.hid (torn_many HL400.out HDAM.out (by unfold maxI; omega) (by have := HLL.out; omega) HST.out (fun _ hs => hcc (by
                        refine str_eq ?_
                        rw [show (tn.extract 0 ek) = tn.extract 0 (0 + ek) by rw [Nat.zero_add], show (sB.extract 0 ek) = sB.extract 0 (0 + ek) by rw [Nat.zero_add], ext_part, ext_part, List.drop_zero, List.drop_zero, HTN.out, HSB.out]
                        have := hs.2
                        rw [← HAT.out] at this
                        exact this)))
                      clear hek hcc HJ
                      go_wp2_with fail
                      go_quiet (fail)
                      generalize hwx : World.drewN _ _ = wy
                      have HJ2 : Hid (JE w r L d n rj v 0 LB (.slice (some ⟨ge, 0, none⟩) ll ce) (endsT LB ll) wy) := Lib.hid (by rw [← hwx, drewN_add]; exact HJ0.out.below (below_drew _ _))
                      clear hwx hce hne; have HJ := HJ2; clear HJ2
                      clear HST HAT
                      obtain ⟨R, hR⟩ : ∃ R, R = LB.take k := ⟨_, rfl⟩
                      have hRl : R.length = k := by rw [hR, List.length_take]; have := HLL.out; omega
                      have hRF : (forms R).length ≤ 1928 := by rw [hR]; exact HFK.out k
                      have HSR : Hid (TRow (fun _ => False) w A R) := Lib.hid (by rw [hR]; exact srow_take HLB.out HA.out k)
                      have HREC2 : Hid (recs C = R) := Lib.hid (by rw [hR]; exact HREC.out)
                      clear hR HREC
                      go_wp2_with fail
                      refine (jWrite HJ.out.jh (by omega) in1 in0 tn (by omega)).mono ?_
                      rintro e wC ⟨rfl, L10, h10, _⟩
                      have H10 := Lib.hid h10; clear h10 HJ
                      obtain ⟨a1, a2⟩ := Dk.write_up HUP.out.1 ok1 (a := 0) (s := tn.data.toList) (by omega) (by rw [list_size]; omega)
                      have hnw : (d.write 1 0 tn.data.toList).1.now 1 = C := by rw [a2.now, upd_same, HUP.out.2.2.1, HTN.out]; exact put_none _
                      have hlo : (d.write 1 0 tn.data.toList).1.lost = 0 := a2.lost.trans HUP.out.2.2.2
                      obtain ⟨o1, o2, o3⟩ := jopen_up a2.up H10.out.disk.ok ok1 hlo
                      rw [hnw, HREC2.out] at o2 o3
                      have O1 := Lib.hid o1; have O2 := Lib.hid o2; have O3 := Lib.hid o3
                      clear a1 a2 hnw hlo o1 o2 o3 HREC2
                      generalize (d.write 1 0 tn.data.toList).1 = d2 at *
                      go_wp2_with fail
                      refine (hOpen_ok H10.out.held (by omega) in1 O1.out).mono ?_
                      rintro e wD ⟨L11, rk, vk, rfl, h11, _⟩
                      rw [O2.out] at h11
                      have H11 := Lib.hid h11; clear h11 H10 O1 O2
                      have hn3 : (jopen d2 1).1.now 1 = forms R := O3.out.kept.now
                      have hup3 := O3.out.up
                      clear O3
                      generalize (jopen d2 1).1 = d3 at *
                      have HALL : Hid (∀ w', Hid (Below wD.heap.size wD w') → Calls Tryd.prog 13 #[.pointer (some ⟨rk, 0, none⟩)] w' (fun e w9 => ∃ A9 c9, e = .returned (.slice A9 k c9) ∧ Hid (TRow (MO r L11 rk vk) w9 A9 R) ∧ Below w'.heap.size w' w9)) := Lib.hid (fun w' hw => by
                        have := hAll (H11.out.below hw.out) (by omega)
                        refine this.mono fun e w9 h => ?_
                        obtain ⟨A9, c9, he, _, h1, h2, h3⟩ := h
                        rw [hRl] at he
                        exact ⟨A9, c9, he, Lib.hid h1, h3⟩)
                      have HSAME : Hid (∀ (w' : World) (A9 : Option Addr) (c9 : Nat), Hid (TRow (MO r L11 rk vk) w' A9 R) → Hid (Below wD.heap.size wD w') → Calls Tryd.prog 12 #[.slice A9 k c9, .slice A k cA] w' fun e w2 => e = .returned (.bool true) ∧ Below w'.heap.size w' w2) := Lib.hid (fun w' A9 c9 h1 h2 => by
                        have := sameT_any A9 c9 A cA R w' h1.out (HSR.out.below (H11.out.bel.trans (h2.out.mono H11.out.bel.size))) (by omega)
                        rw [hRl] at this
                        exact this)
                      have hkc : (k : Int) ≤ (cA : Int) := by have := HLL.out; omega
                      have hk0 : (0 : Int) ≤ (k : Int) := by omega
                      have K0 : Hid (Below wD.heap.size wD wD) := Lib.hid (Below.refl _ _)
                      go_wp2_with fail
                      go_region_held3 (fun w' => Hid (Below wD.heap.size wD w'))
                        (first | exact K0 | exact bw_drew K0 1 | exact bw_go ‹_› ‹_›)
                        (first
                          | (go_at_call 13; refine (HALL.out _ ?_).mono ?_; assumption; rintro e w9 ⟨A9, c9, rfl, hr9, hb9⟩)
                          | (go_at_call 12; refine (HSAME.out _ _ _ ?_ ?_).mono ?_; assumption; assumption; rintro e w10 ⟨rfl, hb10⟩)
                          | fail)
                      all_goals
                        have KZ : Hid (Below wD.heap.size wD w10) := by assumption
                        have HJ10 := Lib.hid (H11.out.below KZ.out); clear KZ
                        clear HALL HSAME HSR K0
                        have hnx : (ByteArray.mk #[110, 101, 120, 116]).size = 4 := rfl
                        obtain ⟨d4, b1, b2⟩ := jappend_up hup3 ok1 hn3 (s := [110, 101, 120, 116]) (by decide) (by have : (form [110, 101, 120, 116]).length ≤ 45 := (form_len _ (by decide)).2; omega)
                        have B1' := Lib.hid b1; clear b1
                        go_wp2_with fail
                        refine (hAppend_is HJ10.out (by omega) in1 HT.out ⟨#[110, 101, 120, 116]⟩ (by decide) (by omega) B1'.out).mono ?_
                        rintro e w11 ⟨rfl, L12, v12, h12, _⟩
                        have H12 := Lib.hid h12; clear h12 HJ10
                        have hl12 : (R ++ [[110, 101, 120, 116]]).length = k + 1 := by simp [hRl]
                        have hbf : (forms (R ++ [[110, 101, 120, 116]])).length ≤ 16777216 := by
                          have : (form [110, 101, 120, 116]).length ≤ 45 := (form_len _ (by decide)).2
                          rw [forms_snoc, List.length_append]; omega
                        go_wp2_with fail
                        refine (jlen_any H12.out.jrn (by omega)).mono ?_
                        rintro e w12 ⟨he, rfl⟩
                        rw [hl12] at he
                        subst he
                        have q1 : IntKind.i64.wrap ((k : Int) + 1) = (k : Int) + 1 := IntWalk.i64_in _ (by omega)
                        have q2 : (((k + 1 : Nat) : Int)) = (k : Int) + 1 := by omega
                        go_wp2_with fail
                        refine (jget_in H12.out.jrn (by omega) k (by omega)).mono ?_
                        rintro e w13 ⟨he, rfl⟩
                        have hgk : (R ++ [[110, 101, 120, 116]])[k]'(by omega) = [110, 101, 120, 116] := by
                          rw [List.getElem_append_right (by omega)]; simp [hRl]
                        rw [hgk] at he
                        obtain rfl : e = .returned (.string ⟨#[110, 101, 120, 116]⟩) := he
                        go_wp2_with fail
                        refine (jget_out H12.out.jrn (by omega) ((k : Int) + 1) (Or.inr (by omega))).mono ?_
                        rintro e w14 ⟨rfl, rfl⟩
                        go_wp2_with fail
                        refine (jget_out H12.out.jrn (by omega) (-1) (Or.inl (by omega))).mono ?_
                        rintro e w15 ⟨rfl, rfl⟩
                        have hmk := mkByte
                        have hbk := backByte
                        have HBIG : Hid (jappend d4 1 (R ++ [[110, 101, 120, 116]]) false bigS.data.toList = (d4, 3, R ++ [[110, 101, 120, 116]], false)) := Lib.hid (by
                          unfold jappend
                          rw [if_neg (by simp), if_pos (by rw [list_size, bigS_size]; omega)])
                        have HBZ := Lib.hid bigS_size
                        generalize bigS = S20 at *
                        generalize (bcs (List.replicate 20001 0)).toArray = Z20 at *
                        have hal : Below w15.heap.size w15 (w15.alloc (.cells Z20 5)) := (Below.refl _ _).alloc (Nat.le_refl _) _
                        have H13 := Lib.hid (H12.out.below hal); clear hal H12
                        go_wp2_with fail
                        refine (hAppend_is H13.out (by have := HBZ.out; omega) in1 HT.out S20 (by have := HBZ.out; omega) hbf HBIG.out).mono ?_
                        rintro e w16 ⟨rfl, L13, v13, h13, _⟩
                        have H14 := Lib.hid h13; clear h13 H13
                        go_wp2_with fail
                        go_ret
                        exact ⟨rfl, H14.out.bel⟩
                  · have d2 : decide ((ek : Int) ≤ (m : Int)) = false := decide_eq_false (by omega)
                    have d2n : decide (ek ≤ m) = false := decide_eq_false hc1
                    have HREC : Hid (recs C = LB.take k) := Lib.hid (torn_many HL400.out HDAM.out (by unfold maxI; omega) (by have := HLL.out; omega) HST.out (fun _ hs => hc1 (by have := hs.1; rw [← HAT.out, hCl] at this; exact this)))
                    clear hek hc1 HJ
                    go_wp2_with fail
                    go_quiet (fail)
                    generalize hwx : World.drewN _ _ = wy
                    have HJ2 : Hid (JE w r L d n rj v 0 LB (.slice (some ⟨ge, 0, none⟩) ll ce) (endsT LB ll) wy) := Lib.hid (by rw [← hwx, drewN_add]; exact HJ0.out.below (below_drew _ _))
                    clear hwx hce; have HJ := HJ2; clear HJ2
                    clear HST HAT
                    obtain ⟨R, hR⟩ : ∃ R, R = LB.take k := ⟨_, rfl⟩
                    have hRl : R.length = k := by rw [hR, List.length_take]; have := HLL.out; omega
                    have hRF : (forms R).length ≤ 1928 := by rw [hR]; exact HFK.out k
                    have HSR : Hid (TRow (fun _ => False) w A R) := Lib.hid (by rw [hR]; exact srow_take HLB.out HA.out k)
                    have HREC2 : Hid (recs C = R) := Lib.hid (by rw [hR]; exact HREC.out)
                    clear hR HREC
                    go_wp2_with fail
                    refine (jWrite HJ.out.jh (by omega) in1 in0 tn (by omega)).mono ?_
                    rintro e wC ⟨rfl, L10, h10, _⟩
                    have H10 := Lib.hid h10; clear h10 HJ
                    obtain ⟨a1, a2⟩ := Dk.write_up HUP.out.1 ok1 (a := 0) (s := tn.data.toList) (by omega) (by rw [list_size]; omega)
                    have hnw : (d.write 1 0 tn.data.toList).1.now 1 = C := by rw [a2.now, upd_same, HUP.out.2.2.1, HTN.out]; exact put_none _
                    have hlo : (d.write 1 0 tn.data.toList).1.lost = 0 := a2.lost.trans HUP.out.2.2.2
                    obtain ⟨o1, o2, o3⟩ := jopen_up a2.up H10.out.disk.ok ok1 hlo
                    rw [hnw, HREC2.out] at o2 o3
                    have O1 := Lib.hid o1; have O2 := Lib.hid o2; have O3 := Lib.hid o3
                    clear a1 a2 hnw hlo o1 o2 o3 HREC2
                    generalize (d.write 1 0 tn.data.toList).1 = d2 at *
                    go_wp2_with fail
                    refine (hOpen_ok H10.out.held (by omega) in1 O1.out).mono ?_
                    rintro e wD ⟨L11, rk, vk, rfl, h11, _⟩
                    rw [O2.out] at h11
                    have H11 := Lib.hid h11; clear h11 H10 O1 O2
                    have hn3 : (jopen d2 1).1.now 1 = forms R := O3.out.kept.now
                    have hup3 := O3.out.up
                    clear O3
                    generalize (jopen d2 1).1 = d3 at *
                    have HALL : Hid (∀ w', Hid (Below wD.heap.size wD w') → Calls Tryd.prog 13 #[.pointer (some ⟨rk, 0, none⟩)] w' (fun e w9 => ∃ A9 c9, e = .returned (.slice A9 k c9) ∧ Hid (TRow (MO r L11 rk vk) w9 A9 R) ∧ Below w'.heap.size w' w9)) := Lib.hid (fun w' hw => by
                      have := hAll (H11.out.below hw.out) (by omega)
                      refine this.mono fun e w9 h => ?_
                      obtain ⟨A9, c9, he, _, h1, h2, h3⟩ := h
                      rw [hRl] at he
                      exact ⟨A9, c9, he, Lib.hid h1, h3⟩)
                    have HSAME : Hid (∀ (w' : World) (A9 : Option Addr) (c9 : Nat), Hid (TRow (MO r L11 rk vk) w' A9 R) → Hid (Below wD.heap.size wD w') → Calls Tryd.prog 12 #[.slice A9 k c9, .slice A k cA] w' fun e w2 => e = .returned (.bool true) ∧ Below w'.heap.size w' w2) := Lib.hid (fun w' A9 c9 h1 h2 => by
                      have := sameT_any A9 c9 A cA R w' h1.out (HSR.out.below (H11.out.bel.trans (h2.out.mono H11.out.bel.size))) (by omega)
                      rw [hRl] at this
                      exact this)
                    have hkc : (k : Int) ≤ (cA : Int) := by have := HLL.out; omega
                    have hk0 : (0 : Int) ≤ (k : Int) := by omega
                    have K0 : Hid (Below wD.heap.size wD wD) := Lib.hid (Below.refl _ _)
                    go_wp2_with fail
                    go_region_held3 (fun w' => Hid (Below wD.heap.size wD w'))
                      (first | exact K0 | exact bw_drew K0 1 | exact bw_go ‹_› ‹_›)
                      (first
                        | (go_at_call 13; refine (HALL.out _ ?_).mono ?_; assumption; rintro e w9 ⟨A9, c9, rfl, hr9, hb9⟩)
                        | (go_at_call 12; refine (HSAME.out _ _ _ ?_ ?_).mono ?_; assumption; assumption; rintro e w10 ⟨rfl, hb10⟩)
                        | fail)
                    all_goals
                      have KZ : Hid (Below wD.heap.size wD w10) := by assumption
                      have HJ10 := Lib.hid (H11.out.below KZ.out); clear KZ
                      clear HALL HSAME HSR K0
                      have hnx : (ByteArray.mk #[110, 101, 120, 116]).size = 4 := rfl
                      obtain ⟨d4, b1, b2⟩ := jappend_up hup3 ok1 hn3 (s := [110, 101, 120, 116]) (by decide) (by have : (form [110, 101, 120, 116]).length ≤ 45 := (form_len _ (by decide)).2; omega)
                      have B1' := Lib.hid b1; clear b1
                      go_wp2_with fail
                      refine (hAppend_is HJ10.out (by omega) in1 HT.out ⟨#[110, 101, 120, 116]⟩ (by decide) (by omega) B1'.out).mono ?_
                      rintro e w11 ⟨rfl, L12, v12, h12, _⟩
                      have H12 := Lib.hid h12; clear h12 HJ10
                      have hl12 : (R ++ [[110, 101, 120, 116]]).length = k + 1 := by simp [hRl]
                      have hbf : (forms (R ++ [[110, 101, 120, 116]])).length ≤ 16777216 := by
                        have : (form [110, 101, 120, 116]).length ≤ 45 := (form_len _ (by decide)).2
                        rw [forms_snoc, List.length_append]; omega
                      go_wp2_with fail
                      refine (jlen_any H12.out.jrn (by omega)).mono ?_
                      rintro e w12 ⟨he, rfl⟩
                      rw [hl12] at he
                      subst he
                      have q1 : IntKind.i64.wrap ((k : Int) + 1) = (k : Int) + 1 := IntWalk.i64_in _ (by omega)
                      have q2 : (((k + 1 : Nat) : Int)) = (k : Int) + 1 := by omega
                      go_wp2_with fail
                      refine (jget_in H12.out.jrn (by omega) k (by omega)).mono ?_
                      rintro e w13 ⟨he, rfl⟩
                      have hgk : (R ++ [[110, 101, 120, 116]])[k]'(by omega) = [110, 101, 120, 116] := by
                        rw [List.getElem_append_right (by omega)]; simp [hRl]
                      rw [hgk] at he
                      obtain rfl : e = .returned (.string ⟨#[110, 101, 120, 116]⟩) := he
                      go_wp2_with fail
                      refine (jget_out H12.out.jrn (by omega) ((k : Int) + 1) (Or.inr (by omega))).mono ?_
                      rintro e w14 ⟨rfl, rfl⟩
                      go_wp2_with fail
                      refine (jget_out H12.out.jrn (by omega) (-1) (Or.inl (by omega))).mono ?_
                      rintro e w15 ⟨rfl, rfl⟩
                      have hmk := mkByte
                      have hbk := backByte
                      have HBIG : Hid (jappend d4 1 (R ++ [[110, 101, 120, 116]]) false bigS.data.toList = (d4, 3, R ++ [[110, 101, 120, 116]], false)) := Lib.hid (by
                        unfold jappend
                        rw [if_neg (by simp), if_pos (by rw [list_size, bigS_size]; omega)])
                      have HBZ := Lib.hid bigS_size
                      generalize bigS = S20 at *
                      generalize (bcs (List.replicate 20001 0)).toArray = Z20 at *
                      have hal : Below w15.heap.size w15 (w15.alloc (.cells Z20 5)) := (Below.refl _ _).alloc (Nat.le_refl _) _
                      have H13 := Lib.hid (H12.out.below hal); clear hal H12
                      go_wp2_with fail
                      refine (hAppend_is H13.out (by have := HBZ.out; omega) in1 HT.out S20 (by have := HBZ.out; omega) hbf HBIG.out).mono ?_
                      rintro e w16 ⟨rfl, L13, v13, h13, _⟩
                      have H14 := Lib.hid h13; clear h13 H13
                      go_wp2_with fail
                      go_ret
                      exact ⟨rfl, H14.out.bel⟩
                · obtain rfl : k = ll := by omega
                  have d1 : decide ((k : Int) < (k : Int)) = false := decide_eq_false (by omega)
                  have d1n : decide (k < k) = false := decide_eq_false (by omega)
                  have HREC : Hid (recs C = LB.take k) := Lib.hid (torn_many HL400.out HDAM.out (by unfold maxI; omega) (by have := HLL.out; omega) HST.out (fun h => absurd h (by have := HLL.out; omega)))
                  obtain ⟨Ae, ce, hve, _⟩ := own_slice2 HJ.out.row
                  rw [ends_len] at hve
                  subst hve
                  have HAT := Lib.hid (rfl : k = k)
                  clear HJ
                  go_wp2_with fail
                  go_quiet (fail)
                  generalize hwx : World.drewN _ _ = wy
                  have HJ2 : Hid (JE w r L d n rj v 0 LB (.slice Ae k ce) (endsT LB k) wy) := Lib.hid (by rw [← hwx, drewN_add]; exact HJ0.out.below (below_drew _ _))
                  clear hwx; have HJ := HJ2; clear HJ2
                  clear HST HAT
                  obtain ⟨R, hR⟩ : ∃ R, R = LB.take k := ⟨_, rfl⟩
                  have hRl : R.length = k := by rw [hR, List.length_take]; have := HLL.out; omega
                  have hRF : (forms R).length ≤ 1928 := by rw [hR]; exact HFK.out k
                  have HSR : Hid (TRow (fun _ => False) w A R) := Lib.hid (by rw [hR]; exact srow_take HLB.out HA.out k)
                  have HREC2 : Hid (recs C = R) := Lib.hid (by rw [hR]; exact HREC.out)
                  clear hR HREC
                  go_wp2_with fail
                  refine (jWrite HJ.out.jh (by omega) in1 in0 tn (by omega)).mono ?_
                  rintro e wC ⟨rfl, L10, h10, _⟩
                  have H10 := Lib.hid h10; clear h10 HJ
                  obtain ⟨a1, a2⟩ := Dk.write_up HUP.out.1 ok1 (a := 0) (s := tn.data.toList) (by omega) (by rw [list_size]; omega)
                  have hnw : (d.write 1 0 tn.data.toList).1.now 1 = C := by rw [a2.now, upd_same, HUP.out.2.2.1, HTN.out]; exact put_none _
                  have hlo : (d.write 1 0 tn.data.toList).1.lost = 0 := a2.lost.trans HUP.out.2.2.2
                  obtain ⟨o1, o2, o3⟩ := jopen_up a2.up H10.out.disk.ok ok1 hlo
                  rw [hnw, HREC2.out] at o2 o3
                  have O1 := Lib.hid o1; have O2 := Lib.hid o2; have O3 := Lib.hid o3
                  clear a1 a2 hnw hlo o1 o2 o3 HREC2
                  generalize (d.write 1 0 tn.data.toList).1 = d2 at *
                  go_wp2_with fail
                  refine (hOpen_ok H10.out.held (by omega) in1 O1.out).mono ?_
                  rintro e wD ⟨L11, rk, vk, rfl, h11, _⟩
                  rw [O2.out] at h11
                  have H11 := Lib.hid h11; clear h11 H10 O1 O2
                  have hn3 : (jopen d2 1).1.now 1 = forms R := O3.out.kept.now
                  have hup3 := O3.out.up
                  clear O3
                  generalize (jopen d2 1).1 = d3 at *
                  have HALL : Hid (∀ w', Hid (Below wD.heap.size wD w') → Calls Tryd.prog 13 #[.pointer (some ⟨rk, 0, none⟩)] w' (fun e w9 => ∃ A9 c9, e = .returned (.slice A9 k c9) ∧ Hid (TRow (MO r L11 rk vk) w9 A9 R) ∧ Below w'.heap.size w' w9)) := Lib.hid (fun w' hw => by
                    have := hAll (H11.out.below hw.out) (by omega)
                    refine this.mono fun e w9 h => ?_
                    obtain ⟨A9, c9, he, _, h1, h2, h3⟩ := h
                    rw [hRl] at he
                    exact ⟨A9, c9, he, Lib.hid h1, h3⟩)
                  have HSAME : Hid (∀ (w' : World) (A9 : Option Addr) (c9 : Nat), Hid (TRow (MO r L11 rk vk) w' A9 R) → Hid (Below wD.heap.size wD w') → Calls Tryd.prog 12 #[.slice A9 k c9, .slice A k cA] w' fun e w2 => e = .returned (.bool true) ∧ Below w'.heap.size w' w2) := Lib.hid (fun w' A9 c9 h1 h2 => by
                    have := sameT_any A9 c9 A cA R w' h1.out (HSR.out.below (H11.out.bel.trans (h2.out.mono H11.out.bel.size))) (by omega)
                    rw [hRl] at this
                    exact this)
                  have hkc : (k : Int) ≤ (cA : Int) := by have := HLL.out; omega
                  have hk0 : (0 : Int) ≤ (k : Int) := by omega
                  have K0 : Hid (Below wD.heap.size wD wD) := Lib.hid (Below.refl _ _)
                  go_wp2_with fail
                  go_region_held3 (fun w' => Hid (Below wD.heap.size wD w'))
                    (first | exact K0 | exact bw_drew K0 1 | exact bw_go ‹_› ‹_›)
                    (first
                      | (go_at_call 13; refine (HALL.out _ ?_).mono ?_; assumption; rintro e w9 ⟨A9, c9, rfl, hr9, hb9⟩)
                      | (go_at_call 12; refine (HSAME.out _ _ _ ?_ ?_).mono ?_; assumption; assumption; rintro e w10 ⟨rfl, hb10⟩)
                      | fail)
                  all_goals
                    have KZ : Hid (Below wD.heap.size wD w10) := by assumption
                    have HJ10 := Lib.hid (H11.out.below KZ.out); clear KZ
                    clear HALL HSAME HSR K0
                    have hnx : (ByteArray.mk #[110, 101, 120, 116]).size = 4 := rfl
                    obtain ⟨d4, b1, b2⟩ := jappend_up hup3 ok1 hn3 (s := [110, 101, 120, 116]) (by decide) (by have : (form [110, 101, 120, 116]).length ≤ 45 := (form_len _ (by decide)).2; omega)
                    have B1' := Lib.hid b1; clear b1
                    go_wp2_with fail
                    refine (hAppend_is HJ10.out (by omega) in1 HT.out ⟨#[110, 101, 120, 116]⟩ (by decide) (by omega) B1'.out).mono ?_
                    rintro e w11 ⟨rfl, L12, v12, h12, _⟩
                    have H12 := Lib.hid h12; clear h12 HJ10
                    have hl12 : (R ++ [[110, 101, 120, 116]]).length = k + 1 := by simp [hRl]
                    have hbf : (forms (R ++ [[110, 101, 120, 116]])).length ≤ 16777216 := by
                      have : (form [110, 101, 120, 116]).length ≤ 45 := (form_len _ (by decide)).2
                      rw [forms_snoc, List.length_append]; omega
                    go_wp2_with fail
                    refine (jlen_any H12.out.jrn (by omega)).mono ?_
                    rintro e w12 ⟨he, rfl⟩
                    rw [hl12] at he
                    subst he
                    have q1 : IntKind.i64.wrap ((k : Int) + 1) = (k : Int) + 1 := IntWalk.i64_in _ (by omega)
                    have q2 : (((k + 1 : Nat) : Int)) = (k : Int) + 1 := by omega
                    go_wp2_with fail
                    refine (jget_in H12.out.jrn (by omega) k (by omega)).mono ?_
                    rintro e w13 ⟨he, rfl⟩
                    have hgk : (R ++ [[110, 101, 120, 116]])[k]'(by omega) = [110, 101, 120, 116] := by
                      rw [List.getElem_append_right (by omega)]; simp [hRl]
                    rw [hgk] at he
                    obtain rfl : e = .returned (.string ⟨#[110, 101, 120, 116]⟩) := he
                    go_wp2_with fail
                    refine (jget_out H12.out.jrn (by omega) ((k : Int) + 1) (Or.inr (by omega))).mono ?_
                    rintro e w14 ⟨rfl, rfl⟩
                    go_wp2_with fail
                    refine (jget_out H12.out.jrn (by omega) (-1) (Or.inl (by omega))).mono ?_
                    rintro e w15 ⟨rfl, rfl⟩
                    have hmk := mkByte
                    have hbk := backByte
                    have HBIG : Hid (jappend d4 1 (R ++ [[110, 101, 120, 116]]) false bigS.data.toList = (d4, 3, R ++ [[110, 101, 120, 116]], false)) := Lib.hid (by
                      unfold jappend
                      rw [if_neg (by simp), if_pos (by rw [list_size, bigS_size]; omega)])
                    have HBZ := Lib.hid bigS_size
                    generalize bigS = S20 at *
                    generalize (bcs (List.replicate 20001 0)).toArray = Z20 at *
                    have hal : Below w15.heap.size w15 (w15.alloc (.cells Z20 5)) := (Below.refl _ _).alloc (Nat.le_refl _) _
                    have H13 := Lib.hid (H12.out.below hal); clear hal H12
                    go_wp2_with fail
                    refine (hAppend_is H13.out (by have := HBZ.out; omega) in1 HT.out S20 (by have := HBZ.out; omega) hbf HBIG.out).mono ?_
                    rintro e w16 ⟨rfl, L13, v13, h13, _⟩
                    have H14 := Lib.hid h13; clear h13 H13
                    go_wp2_with fail
                    go_ret
                    exact ⟨rfl, H14.out.bel⟩
        · skip
          have dz : decide ((0 : Int) < (zero.length : Int)) = false := decide_eq_false (by omega)
          have dzn : decide (0 < zero.length) = false := decide_eq_false hzl
          go_loopw [16] (fun ii wr => ii = .int .i64 0 ∧ Hid (BZ g sz cap (forms LB) w7 wr)) (fun _ _ => 0)
          case atStart => exact ⟨rfl, HBR0⟩
          case round =>
            clear HBR0
            obtain ⟨rfl, HBZ⟩ := hrel
            obtain ⟨Z, hZ⟩ : ∃ Z, Z = forms LB := ⟨_, rfl⟩
            have HZP : Hid (∀ j, j < Z.length → bt Z j = bt (forms LB) j ∨ bt Z j = 0) := Lib.hid (fun _ _ => Or.inl (by rw [hZ]))
            have hZl : Z.length = sz := by rw [hZ]; exact HSZ.out
            rw [← hZ] at HBZ
            clear hZ
            by_cases hs0 : 0 < sz
            · have ds : decide ((0 : Int) < (sz : Int)) = true := decide_eq_true (by omega)
              have dsn : decide (0 < sz) = true := decide_eq_true hs0
              have dsi : (0 : Int) < (sz : Int) := by omega
              obtain ⟨m, hm⟩ : ∃ m : Nat, m = (max 0 (min size (sz : Int))).toNat := ⟨_, rfl⟩
              have hmI : max 0 (min size (sz : Int)) = (m : Int) := by omega
              have hmI2 : max (min size (sz : Int)) 0 = (m : Int) := by omega
              have hml : m ≤ sz := by omega
              clear hm
              obtain ⟨C, hC⟩ : ∃ C, C = Z.take m := ⟨_, rfl⟩
              obtain ⟨tn, htn⟩ : ∃ tn : ByteArray, tn = ⟨C.toArray⟩ := ⟨_, rfl⟩
              have HTN : Hid (tn.data.toList = C) := Lib.hid (by rw [htn])
              have hCl : C.length = m := by rw [hC, List.length_take]; omega
              have htsz : tn.size = m := by rw [← list_size, HTN.out, hCl]
              have HDAM : Hid (Dam C (forms LB)) := Lib.hid (by rw [hC]; exact dam_cut (by rw [hZl, HSZ.out]) HZP.out m)
              obtain ⟨g9, c9, hv9, hg9, hgB9, hcl9, hfr9, hc9⟩ := HBZ.out.row.parts
              simp only [Value.slice.injEq, Option.some.injEq, Addr.mk.injEq, and_true] at hv9
              obtain ⟨rfl, hzz, rfl⟩ := hv9; clear hzz
              have hcv2 : (convert 36 9 (.slice (some ⟨g, 0, none⟩) m cap)).run Tryd.prog wr = .ok (.string tn) wr := by
                have := run_convert_bytes_back (P := Tryd.prog) wr 36 9 5 ⟨g, 0, none⟩ cap C Tryd.underlying36 Tryd.underlying5 Tryd.underlying9 (fun q hq => by
                  rw [add_t, hcl9 q (by omega)]
                  simp [hC])
                rw [hCl, ← htn] at this
                exact this
              have hm0 : (0 : Int) ≤ (m : Int) := by omega
              have hmc : (m : Int) ≤ (cap : Int) := by omega
              have hmz : (m : Int) ≤ (sz : Int) := by omega
              have HJ0 := Lib.hid (HE.out.below HBZ.out.bel)
              clear htn hC HZP HBZ hg9 hgB9 hcl9 hfr9 hc9 HE
              go_wp2_with fail
              clear hcv2 hmI hmI2
              go_loopw [18] (fun kk wx => ∃ (k q : Nat), k ≤ ll ∧ kk = .int .i64 k ∧ wx = wr.drewN q ∧ Hid (Stands LB C k)) (fun kk _ => ll - (intOf kk).toNat)
              case atStart => exact ⟨0, 0, Nat.zero_le _, rfl, rfl, Lib.hid (stands_zero _ _)⟩
              case round =>
                obtain ⟨k, q, hk, rfl, rfl, HST⟩ := hrel
                have HJ := Lib.hid (HJ0.out.below (below_drew wr q))
                have k0 : (0 : Int) ≤ (k : Int) := by omega
                have kw : IntKind.i64.wrap ((k : Int) + 1) = (k : Int) + 1 := IntWalk.i64_in _ (by omega)
                by_cases hlt : k < ll
                · have k1 : (k : Int) < (ll : Int) := by omega
                  have d1 : decide ((k : Int) < (ll : Int)) = true := decide_eq_true k1
                  have d1n : decide (k < ll) = true := decide_eq_true hlt
                  obtain ⟨ek, hek⟩ : ∃ ek, ek = (forms (LB.take (k + 1))).length := ⟨_, rfl⟩
                  obtain ⟨ge, ce, hve, hgeB, hgel⟩ := HJ.out.row.form (by rw [ends_len]; omega)
                  rw [ends_len] at hve
                  subst hve
                  have hce : wr.cell? ⟨ge, k, none⟩ = some (.int .i64 (ek : Int)) := by
                    show (wr.drewN q).cell? ⟨ge, k, none⟩ = _
                    have h1 := HJ.out.row
                    rw [ends_len] at h1
                    rw [h1.cellAt k (by omega), ends_at LB ll k hlt, hek]
                  have HAT := Lib.hid hek
                  have hekF : ek ≤ sz := by rw [hek, ← HSZ.out]; exact forms_pre (List.take_prefix _ _)
                  have e0 : (0 : Int) ≤ (ek : Int) := by omega
                  have e1 : (ek : Int) ≤ (sz : Int) := by omega
                  by_cases hc1 : ek ≤ m
                  · have e2 : (ek : Int) ≤ (m : Int) := by omega
                    have d2 : decide ((ek : Int) ≤ (m : Int)) = true := decide_eq_true e2
                    have d2n : decide (ek ≤ m) = true := decide_eq_true hc1
                    by_cases hcc : tn.extract 0 ek = sB.extract 0 ek
                    · have HSN : Hid (Stands LB C (k + 1)) := Lib.hid (by
                        refine stands_next (by rw [← HAT.out, hCl]; exact hc1) ?_
                        rw [← HAT.out]
                        have h2 : (tn.extract 0 ek).data.toList = (sB.extract 0 ek).data.toList := by rw [hcc]
                        rw [show (tn.extract 0 ek) = tn.extract 0 (0 + ek) by rw [Nat.zero_add], show (sB.extract 0 ek) = sB.extract 0 (0 + ek) by rw [Nat.zero_add], ext_part, ext_part, List.drop_zero, List.drop_zero, HTN.out, HSB.out] at h2
                        exact h2)
                      clear hek HST HJ
                      go_wp2_with fail
                      go_quiet (fail)
                      go_wp2_with fail
                      go_roundw
                      case rel => exact ⟨k + 1, _, by omega, by go_num, rfl, HSN⟩
                      case measure => simp [intOf]; omega
                    · have hne := bs_ne hcc
                      have HREC : Hid (recs C = LB.take k) := Lib.hid (torn_many HL400.out HDAM.out (by unfold maxI; omega) (by have := HLL.out; omega) HST.out (fun _ hs => hcc (by
                        refine str_eq ?_
                        rw [show (tn.extract 0 ek) = tn.extract 0 (0 + ek) by rw [Nat.zero_add], show (sB.extract 0 ek) = sB.extract 0 (0 + ek) by rw [Nat.zero_add], ext_part, ext_part, List.drop_zero, List.drop_zero, HTN.out, HSB.out]
                        have := hs.2
                        rw [← HAT.out] at this
                        exact this)))
                      clear hek hcc HJ
                      go_wp2_with fail
                      go_quiet (fail)
                      generalize hwx : World.drewN _ _ = wy
                      have HJ2 : Hid (JE w r L d n rj v 0 LB (.slice (some ⟨ge, 0, none⟩) ll ce) (endsT LB ll) wy) := Lib.hid (by rw [← hwx, drewN_add]; exact HJ0.out.below (below_drew _ _))
                      clear hwx hce hne; have HJ := HJ2; clear HJ2
                      clear HST HAT
                      obtain ⟨R, hR⟩ : ∃ R, R = LB.take k := ⟨_, rfl⟩
                      have hRl : R.length = k := by rw [hR, List.length_take]; have := HLL.out; omega
                      have hRF : (forms R).length ≤ 1928 := by rw [hR]; exact HFK.out k
                      have HSR : Hid (TRow (fun _ => False) w A R) := Lib.hid (by rw [hR]; exact srow_take HLB.out HA.out k)
                      have HREC2 : Hid (recs C = R) := Lib.hid (by rw [hR]; exact HREC.out)
                      clear hR HREC
                      go_wp2_with fail
                      refine (jWrite HJ.out.jh (by omega) in1 in0 tn (by omega)).mono ?_
                      rintro e wC ⟨rfl, L10, h10, _⟩
                      have H10 := Lib.hid h10; clear h10 HJ
                      obtain ⟨a1, a2⟩ := Dk.write_up HUP.out.1 ok1 (a := 0) (s := tn.data.toList) (by omega) (by rw [list_size]; omega)
                      have hnw : (d.write 1 0 tn.data.toList).1.now 1 = C := by rw [a2.now, upd_same, HUP.out.2.2.1, HTN.out]; exact put_none _
                      have hlo : (d.write 1 0 tn.data.toList).1.lost = 0 := a2.lost.trans HUP.out.2.2.2
                      obtain ⟨o1, o2, o3⟩ := jopen_up a2.up H10.out.disk.ok ok1 hlo
                      rw [hnw, HREC2.out] at o2 o3
                      have O1 := Lib.hid o1; have O2 := Lib.hid o2; have O3 := Lib.hid o3
                      clear a1 a2 hnw hlo o1 o2 o3 HREC2
                      generalize (d.write 1 0 tn.data.toList).1 = d2 at *
                      go_wp2_with fail
                      refine (hOpen_ok H10.out.held (by omega) in1 O1.out).mono ?_
                      rintro e wD ⟨L11, rk, vk, rfl, h11, _⟩
                      rw [O2.out] at h11
                      have H11 := Lib.hid h11; clear h11 H10 O1 O2
                      have hn3 : (jopen d2 1).1.now 1 = forms R := O3.out.kept.now
                      have hup3 := O3.out.up
                      clear O3
                      generalize (jopen d2 1).1 = d3 at *
                      have HALL : Hid (∀ w', Hid (Below wD.heap.size wD w') → Calls Tryd.prog 13 #[.pointer (some ⟨rk, 0, none⟩)] w' (fun e w9 => ∃ A9 c9, e = .returned (.slice A9 k c9) ∧ Hid (TRow (MO r L11 rk vk) w9 A9 R) ∧ Below w'.heap.size w' w9)) := Lib.hid (fun w' hw => by
                        have := hAll (H11.out.below hw.out) (by omega)
                        refine this.mono fun e w9 h => ?_
                        obtain ⟨A9, c9, he, _, h1, h2, h3⟩ := h
                        rw [hRl] at he
                        exact ⟨A9, c9, he, Lib.hid h1, h3⟩)
                      have HSAME : Hid (∀ (w' : World) (A9 : Option Addr) (c9 : Nat), Hid (TRow (MO r L11 rk vk) w' A9 R) → Hid (Below wD.heap.size wD w') → Calls Tryd.prog 12 #[.slice A9 k c9, .slice A k cA] w' fun e w2 => e = .returned (.bool true) ∧ Below w'.heap.size w' w2) := Lib.hid (fun w' A9 c9 h1 h2 => by
                        have := sameT_any A9 c9 A cA R w' h1.out (HSR.out.below (H11.out.bel.trans (h2.out.mono H11.out.bel.size))) (by omega)
                        rw [hRl] at this
                        exact this)
                      have hkc : (k : Int) ≤ (cA : Int) := by have := HLL.out; omega
                      have hk0 : (0 : Int) ≤ (k : Int) := by omega
                      have K0 : Hid (Below wD.heap.size wD wD) := Lib.hid (Below.refl _ _)
                      go_wp2_with fail
                      go_region_held3 (fun w' => Hid (Below wD.heap.size wD w'))
                        (first | exact K0 | exact bw_drew K0 1 | exact bw_go ‹_› ‹_›)
                        (first
                          | (go_at_call 13; refine (HALL.out _ ?_).mono ?_; assumption; rintro e w9 ⟨A9, c9, rfl, hr9, hb9⟩)
                          | (go_at_call 12; refine (HSAME.out _ _ _ ?_ ?_).mono ?_; assumption; assumption; rintro e w10 ⟨rfl, hb10⟩)
                          | fail)
                      all_goals
                        have KZ : Hid (Below wD.heap.size wD w10) := by assumption
                        have HJ10 := Lib.hid (H11.out.below KZ.out); clear KZ
                        clear HALL HSAME HSR K0
                        have hnx : (ByteArray.mk #[110, 101, 120, 116]).size = 4 := rfl
                        obtain ⟨d4, b1, b2⟩ := jappend_up hup3 ok1 hn3 (s := [110, 101, 120, 116]) (by decide) (by have : (form [110, 101, 120, 116]).length ≤ 45 := (form_len _ (by decide)).2; omega)
                        have B1' := Lib.hid b1; clear b1
                        go_wp2_with fail
                        refine (hAppend_is HJ10.out (by omega) in1 HT.out ⟨#[110, 101, 120, 116]⟩ (by decide) (by omega) B1'.out).mono ?_
                        rintro e w11 ⟨rfl, L12, v12, h12, _⟩
                        have H12 := Lib.hid h12; clear h12 HJ10
                        have hl12 : (R ++ [[110, 101, 120, 116]]).length = k + 1 := by simp [hRl]
                        have hbf : (forms (R ++ [[110, 101, 120, 116]])).length ≤ 16777216 := by
                          have : (form [110, 101, 120, 116]).length ≤ 45 := (form_len _ (by decide)).2
                          rw [forms_snoc, List.length_append]; omega
                        go_wp2_with fail
                        refine (jlen_any H12.out.jrn (by omega)).mono ?_
                        rintro e w12 ⟨he, rfl⟩
                        rw [hl12] at he
                        subst he
                        have q1 : IntKind.i64.wrap ((k : Int) + 1) = (k : Int) + 1 := IntWalk.i64_in _ (by omega)
                        have q2 : (((k + 1 : Nat) : Int)) = (k : Int) + 1 := by omega
                        go_wp2_with fail
                        refine (jget_in H12.out.jrn (by omega) k (by omega)).mono ?_
                        rintro e w13 ⟨he, rfl⟩
                        have hgk : (R ++ [[110, 101, 120, 116]])[k]'(by omega) = [110, 101, 120, 116] := by
                          rw [List.getElem_append_right (by omega)]; simp [hRl]
                        rw [hgk] at he
                        obtain rfl : e = .returned (.string ⟨#[110, 101, 120, 116]⟩) := he
                        go_wp2_with fail
                        refine (jget_out H12.out.jrn (by omega) ((k : Int) + 1) (Or.inr (by omega))).mono ?_
                        rintro e w14 ⟨rfl, rfl⟩
                        go_wp2_with fail
                        refine (jget_out H12.out.jrn (by omega) (-1) (Or.inl (by omega))).mono ?_
                        rintro e w15 ⟨rfl, rfl⟩
                        have hmk := mkByte
                        have hbk := backByte
                        have HBIG : Hid (jappend d4 1 (R ++ [[110, 101, 120, 116]]) false bigS.data.toList = (d4, 3, R ++ [[110, 101, 120, 116]], false)) := Lib.hid (by
                          unfold jappend
                          rw [if_neg (by simp), if_pos (by rw [list_size, bigS_size]; omega)])
                        have HBZ := Lib.hid bigS_size
                        generalize bigS = S20 at *
                        generalize (bcs (List.replicate 20001 0)).toArray = Z20 at *
                        have hal : Below w15.heap.size w15 (w15.alloc (.cells Z20 5)) := (Below.refl _ _).alloc (Nat.le_refl _) _
                        have H13 := Lib.hid (H12.out.below hal); clear hal H12
                        go_wp2_with fail
                        refine (hAppend_is H13.out (by have := HBZ.out; omega) in1 HT.out S20 (by have := HBZ.out; omega) hbf HBIG.out).mono ?_
                        rintro e w16 ⟨rfl, L13, v13, h13, _⟩
                        have H14 := Lib.hid h13; clear h13 H13
                        go_wp2_with fail
                        go_ret
                        exact ⟨rfl, H14.out.bel⟩
                  · have d2 : decide ((ek : Int) ≤ (m : Int)) = false := decide_eq_false (by omega)
                    have d2n : decide (ek ≤ m) = false := decide_eq_false hc1
                    have HREC : Hid (recs C = LB.take k) := Lib.hid (torn_many HL400.out HDAM.out (by unfold maxI; omega) (by have := HLL.out; omega) HST.out (fun _ hs => hc1 (by have := hs.1; rw [← HAT.out, hCl] at this; exact this)))
                    clear hek hc1 HJ
                    go_wp2_with fail
                    go_quiet (fail)
                    generalize hwx : World.drewN _ _ = wy
                    have HJ2 : Hid (JE w r L d n rj v 0 LB (.slice (some ⟨ge, 0, none⟩) ll ce) (endsT LB ll) wy) := Lib.hid (by rw [← hwx, drewN_add]; exact HJ0.out.below (below_drew _ _))
                    clear hwx hce; have HJ := HJ2; clear HJ2
                    clear HST HAT
                    obtain ⟨R, hR⟩ : ∃ R, R = LB.take k := ⟨_, rfl⟩
                    have hRl : R.length = k := by rw [hR, List.length_take]; have := HLL.out; omega
                    have hRF : (forms R).length ≤ 1928 := by rw [hR]; exact HFK.out k
                    have HSR : Hid (TRow (fun _ => False) w A R) := Lib.hid (by rw [hR]; exact srow_take HLB.out HA.out k)
                    have HREC2 : Hid (recs C = R) := Lib.hid (by rw [hR]; exact HREC.out)
                    clear hR HREC
                    go_wp2_with fail
                    refine (jWrite HJ.out.jh (by omega) in1 in0 tn (by omega)).mono ?_
                    rintro e wC ⟨rfl, L10, h10, _⟩
                    have H10 := Lib.hid h10; clear h10 HJ
                    obtain ⟨a1, a2⟩ := Dk.write_up HUP.out.1 ok1 (a := 0) (s := tn.data.toList) (by omega) (by rw [list_size]; omega)
                    have hnw : (d.write 1 0 tn.data.toList).1.now 1 = C := by rw [a2.now, upd_same, HUP.out.2.2.1, HTN.out]; exact put_none _
                    have hlo : (d.write 1 0 tn.data.toList).1.lost = 0 := a2.lost.trans HUP.out.2.2.2
                    obtain ⟨o1, o2, o3⟩ := jopen_up a2.up H10.out.disk.ok ok1 hlo
                    rw [hnw, HREC2.out] at o2 o3
                    have O1 := Lib.hid o1; have O2 := Lib.hid o2; have O3 := Lib.hid o3
                    clear a1 a2 hnw hlo o1 o2 o3 HREC2
                    generalize (d.write 1 0 tn.data.toList).1 = d2 at *
                    go_wp2_with fail
                    refine (hOpen_ok H10.out.held (by omega) in1 O1.out).mono ?_
                    rintro e wD ⟨L11, rk, vk, rfl, h11, _⟩
                    rw [O2.out] at h11
                    have H11 := Lib.hid h11; clear h11 H10 O1 O2
                    have hn3 : (jopen d2 1).1.now 1 = forms R := O3.out.kept.now
                    have hup3 := O3.out.up
                    clear O3
                    generalize (jopen d2 1).1 = d3 at *
                    have HALL : Hid (∀ w', Hid (Below wD.heap.size wD w') → Calls Tryd.prog 13 #[.pointer (some ⟨rk, 0, none⟩)] w' (fun e w9 => ∃ A9 c9, e = .returned (.slice A9 k c9) ∧ Hid (TRow (MO r L11 rk vk) w9 A9 R) ∧ Below w'.heap.size w' w9)) := Lib.hid (fun w' hw => by
                      have := hAll (H11.out.below hw.out) (by omega)
                      refine this.mono fun e w9 h => ?_
                      obtain ⟨A9, c9, he, _, h1, h2, h3⟩ := h
                      rw [hRl] at he
                      exact ⟨A9, c9, he, Lib.hid h1, h3⟩)
                    have HSAME : Hid (∀ (w' : World) (A9 : Option Addr) (c9 : Nat), Hid (TRow (MO r L11 rk vk) w' A9 R) → Hid (Below wD.heap.size wD w') → Calls Tryd.prog 12 #[.slice A9 k c9, .slice A k cA] w' fun e w2 => e = .returned (.bool true) ∧ Below w'.heap.size w' w2) := Lib.hid (fun w' A9 c9 h1 h2 => by
                      have := sameT_any A9 c9 A cA R w' h1.out (HSR.out.below (H11.out.bel.trans (h2.out.mono H11.out.bel.size))) (by omega)
                      rw [hRl] at this
                      exact this)
                    have hkc : (k : Int) ≤ (cA : Int) := by have := HLL.out; omega
                    have hk0 : (0 : Int) ≤ (k : Int) := by omega
                    have K0 : Hid (Below wD.heap.size wD wD) := Lib.hid (Below.refl _ _)
                    go_wp2_with fail
                    go_region_held3 (fun w' => Hid (Below wD.heap.size wD w'))
                      (first | exact K0 | exact bw_drew K0 1 | exact bw_go ‹_› ‹_›)
                      (first
                        | (go_at_call 13; refine (HALL.out _ ?_).mono ?_; assumption; rintro e w9 ⟨A9, c9, rfl, hr9, hb9⟩)
                        | (go_at_call 12; refine (HSAME.out _ _ _ ?_ ?_).mono ?_; assumption; assumption; rintro e w10 ⟨rfl, hb10⟩)
                        | fail)
                    all_goals
                      have KZ : Hid (Below wD.heap.size wD w10) := by assumption
                      have HJ10 := Lib.hid (H11.out.below KZ.out); clear KZ
                      clear HALL HSAME HSR K0
                      have hnx : (ByteArray.mk #[110, 101, 120, 116]).size = 4 := rfl
                      obtain ⟨d4, b1, b2⟩ := jappend_up hup3 ok1 hn3 (s := [110, 101, 120, 116]) (by decide) (by have : (form [110, 101, 120, 116]).length ≤ 45 := (form_len _ (by decide)).2; omega)
                      have B1' := Lib.hid b1; clear b1
                      go_wp2_with fail
                      refine (hAppend_is HJ10.out (by omega) in1 HT.out ⟨#[110, 101, 120, 116]⟩ (by decide) (by omega) B1'.out).mono ?_
                      rintro e w11 ⟨rfl, L12, v12, h12, _⟩
                      have H12 := Lib.hid h12; clear h12 HJ10
                      have hl12 : (R ++ [[110, 101, 120, 116]]).length = k + 1 := by simp [hRl]
                      have hbf : (forms (R ++ [[110, 101, 120, 116]])).length ≤ 16777216 := by
                        have : (form [110, 101, 120, 116]).length ≤ 45 := (form_len _ (by decide)).2
                        rw [forms_snoc, List.length_append]; omega
                      go_wp2_with fail
                      refine (jlen_any H12.out.jrn (by omega)).mono ?_
                      rintro e w12 ⟨he, rfl⟩
                      rw [hl12] at he
                      subst he
                      have q1 : IntKind.i64.wrap ((k : Int) + 1) = (k : Int) + 1 := IntWalk.i64_in _ (by omega)
                      have q2 : (((k + 1 : Nat) : Int)) = (k : Int) + 1 := by omega
                      go_wp2_with fail
                      refine (jget_in H12.out.jrn (by omega) k (by omega)).mono ?_
                      rintro e w13 ⟨he, rfl⟩
                      have hgk : (R ++ [[110, 101, 120, 116]])[k]'(by omega) = [110, 101, 120, 116] := by
                        rw [List.getElem_append_right (by omega)]; simp [hRl]
                      rw [hgk] at he
                      obtain rfl : e = .returned (.string ⟨#[110, 101, 120, 116]⟩) := he
                      go_wp2_with fail
                      refine (jget_out H12.out.jrn (by omega) ((k : Int) + 1) (Or.inr (by omega))).mono ?_
                      rintro e w14 ⟨rfl, rfl⟩
                      go_wp2_with fail
                      refine (jget_out H12.out.jrn (by omega) (-1) (Or.inl (by omega))).mono ?_
                      rintro e w15 ⟨rfl, rfl⟩
                      have hmk := mkByte
                      have hbk := backByte
                      have HBIG : Hid (jappend d4 1 (R ++ [[110, 101, 120, 116]]) false bigS.data.toList = (d4, 3, R ++ [[110, 101, 120, 116]], false)) := Lib.hid (by
                        unfold jappend
                        rw [if_neg (by simp), if_pos (by rw [list_size, bigS_size]; omega)])
                      have HBZ := Lib.hid bigS_size
                      generalize bigS = S20 at *
                      generalize (bcs (List.replicate 20001 0)).toArray = Z20 at *
                      have hal : Below w15.heap.size w15 (w15.alloc (.cells Z20 5)) := (Below.refl _ _).alloc (Nat.le_refl _) _
                      have H13 := Lib.hid (H12.out.below hal); clear hal H12
                      go_wp2_with fail
                      refine (hAppend_is H13.out (by have := HBZ.out; omega) in1 HT.out S20 (by have := HBZ.out; omega) hbf HBIG.out).mono ?_
                      rintro e w16 ⟨rfl, L13, v13, h13, _⟩
                      have H14 := Lib.hid h13; clear h13 H13
                      go_wp2_with fail
                      go_ret
                      exact ⟨rfl, H14.out.bel⟩
                · obtain rfl : k = ll := by omega
                  have d1 : decide ((k : Int) < (k : Int)) = false := decide_eq_false (by omega)
                  have d1n : decide (k < k) = false := decide_eq_false (by omega)
                  have HREC : Hid (recs C = LB.take k) := Lib.hid (torn_many HL400.out HDAM.out (by unfold maxI; omega) (by have := HLL.out; omega) HST.out (fun h => absurd h (by have := HLL.out; omega)))
                  obtain ⟨Ae, ce, hve, _⟩ := own_slice2 HJ.out.row
                  rw [ends_len] at hve
                  subst hve
                  have HAT := Lib.hid (rfl : k = k)
                  clear HJ
                  go_wp2_with fail
                  go_quiet (fail)
                  generalize hwx : World.drewN _ _ = wy
                  have HJ2 : Hid (JE w r L d n rj v 0 LB (.slice Ae k ce) (endsT LB k) wy) := Lib.hid (by rw [← hwx, drewN_add]; exact HJ0.out.below (below_drew _ _))
                  clear hwx; have HJ := HJ2; clear HJ2
                  clear HST HAT
                  obtain ⟨R, hR⟩ : ∃ R, R = LB.take k := ⟨_, rfl⟩
                  have hRl : R.length = k := by rw [hR, List.length_take]; have := HLL.out; omega
                  have hRF : (forms R).length ≤ 1928 := by rw [hR]; exact HFK.out k
                  have HSR : Hid (TRow (fun _ => False) w A R) := Lib.hid (by rw [hR]; exact srow_take HLB.out HA.out k)
                  have HREC2 : Hid (recs C = R) := Lib.hid (by rw [hR]; exact HREC.out)
                  clear hR HREC
                  go_wp2_with fail
                  refine (jWrite HJ.out.jh (by omega) in1 in0 tn (by omega)).mono ?_
                  rintro e wC ⟨rfl, L10, h10, _⟩
                  have H10 := Lib.hid h10; clear h10 HJ
                  obtain ⟨a1, a2⟩ := Dk.write_up HUP.out.1 ok1 (a := 0) (s := tn.data.toList) (by omega) (by rw [list_size]; omega)
                  have hnw : (d.write 1 0 tn.data.toList).1.now 1 = C := by rw [a2.now, upd_same, HUP.out.2.2.1, HTN.out]; exact put_none _
                  have hlo : (d.write 1 0 tn.data.toList).1.lost = 0 := a2.lost.trans HUP.out.2.2.2
                  obtain ⟨o1, o2, o3⟩ := jopen_up a2.up H10.out.disk.ok ok1 hlo
                  rw [hnw, HREC2.out] at o2 o3
                  have O1 := Lib.hid o1; have O2 := Lib.hid o2; have O3 := Lib.hid o3
                  clear a1 a2 hnw hlo o1 o2 o3 HREC2
                  generalize (d.write 1 0 tn.data.toList).1 = d2 at *
                  go_wp2_with fail
                  refine (hOpen_ok H10.out.held (by omega) in1 O1.out).mono ?_
                  rintro e wD ⟨L11, rk, vk, rfl, h11, _⟩
                  rw [O2.out] at h11
                  have H11 := Lib.hid h11; clear h11 H10 O1 O2
                  have hn3 : (jopen d2 1).1.now 1 = forms R := O3.out.kept.now
                  have hup3 := O3.out.up
                  clear O3
                  generalize (jopen d2 1).1 = d3 at *
                  have HALL : Hid (∀ w', Hid (Below wD.heap.size wD w') → Calls Tryd.prog 13 #[.pointer (some ⟨rk, 0, none⟩)] w' (fun e w9 => ∃ A9 c9, e = .returned (.slice A9 k c9) ∧ Hid (TRow (MO r L11 rk vk) w9 A9 R) ∧ Below w'.heap.size w' w9)) := Lib.hid (fun w' hw => by
                    have := hAll (H11.out.below hw.out) (by omega)
                    refine this.mono fun e w9 h => ?_
                    obtain ⟨A9, c9, he, _, h1, h2, h3⟩ := h
                    rw [hRl] at he
                    exact ⟨A9, c9, he, Lib.hid h1, h3⟩)
                  have HSAME : Hid (∀ (w' : World) (A9 : Option Addr) (c9 : Nat), Hid (TRow (MO r L11 rk vk) w' A9 R) → Hid (Below wD.heap.size wD w') → Calls Tryd.prog 12 #[.slice A9 k c9, .slice A k cA] w' fun e w2 => e = .returned (.bool true) ∧ Below w'.heap.size w' w2) := Lib.hid (fun w' A9 c9 h1 h2 => by
                    have := sameT_any A9 c9 A cA R w' h1.out (HSR.out.below (H11.out.bel.trans (h2.out.mono H11.out.bel.size))) (by omega)
                    rw [hRl] at this
                    exact this)
                  have hkc : (k : Int) ≤ (cA : Int) := by have := HLL.out; omega
                  have hk0 : (0 : Int) ≤ (k : Int) := by omega
                  have K0 : Hid (Below wD.heap.size wD wD) := Lib.hid (Below.refl _ _)
                  go_wp2_with fail
                  go_region_held3 (fun w' => Hid (Below wD.heap.size wD w'))
                    (first | exact K0 | exact bw_drew K0 1 | exact bw_go ‹_› ‹_›)
                    (first
                      | (go_at_call 13; refine (HALL.out _ ?_).mono ?_; assumption; rintro e w9 ⟨A9, c9, rfl, hr9, hb9⟩)
                      | (go_at_call 12; refine (HSAME.out _ _ _ ?_ ?_).mono ?_; assumption; assumption; rintro e w10 ⟨rfl, hb10⟩)
                      | fail)
                  all_goals
                    have KZ : Hid (Below wD.heap.size wD w10) := by assumption
                    have HJ10 := Lib.hid (H11.out.below KZ.out); clear KZ
                    clear HALL HSAME HSR K0
                    have hnx : (ByteArray.mk #[110, 101, 120, 116]).size = 4 := rfl
                    obtain ⟨d4, b1, b2⟩ := jappend_up hup3 ok1 hn3 (s := [110, 101, 120, 116]) (by decide) (by have : (form [110, 101, 120, 116]).length ≤ 45 := (form_len _ (by decide)).2; omega)
                    have B1' := Lib.hid b1; clear b1
                    go_wp2_with fail
                    refine (hAppend_is HJ10.out (by omega) in1 HT.out ⟨#[110, 101, 120, 116]⟩ (by decide) (by omega) B1'.out).mono ?_
                    rintro e w11 ⟨rfl, L12, v12, h12, _⟩
                    have H12 := Lib.hid h12; clear h12 HJ10
                    have hl12 : (R ++ [[110, 101, 120, 116]]).length = k + 1 := by simp [hRl]
                    have hbf : (forms (R ++ [[110, 101, 120, 116]])).length ≤ 16777216 := by
                      have : (form [110, 101, 120, 116]).length ≤ 45 := (form_len _ (by decide)).2
                      rw [forms_snoc, List.length_append]; omega
                    go_wp2_with fail
                    refine (jlen_any H12.out.jrn (by omega)).mono ?_
                    rintro e w12 ⟨he, rfl⟩
                    rw [hl12] at he
                    subst he
                    have q1 : IntKind.i64.wrap ((k : Int) + 1) = (k : Int) + 1 := IntWalk.i64_in _ (by omega)
                    have q2 : (((k + 1 : Nat) : Int)) = (k : Int) + 1 := by omega
                    go_wp2_with fail
                    refine (jget_in H12.out.jrn (by omega) k (by omega)).mono ?_
                    rintro e w13 ⟨he, rfl⟩
                    have hgk : (R ++ [[110, 101, 120, 116]])[k]'(by omega) = [110, 101, 120, 116] := by
                      rw [List.getElem_append_right (by omega)]; simp [hRl]
                    rw [hgk] at he
                    obtain rfl : e = .returned (.string ⟨#[110, 101, 120, 116]⟩) := he
                    go_wp2_with fail
                    refine (jget_out H12.out.jrn (by omega) ((k : Int) + 1) (Or.inr (by omega))).mono ?_
                    rintro e w14 ⟨rfl, rfl⟩
                    go_wp2_with fail
                    refine (jget_out H12.out.jrn (by omega) (-1) (Or.inl (by omega))).mono ?_
                    rintro e w15 ⟨rfl, rfl⟩
                    have hmk := mkByte
                    have hbk := backByte
                    have HBIG : Hid (jappend d4 1 (R ++ [[110, 101, 120, 116]]) false bigS.data.toList = (d4, 3, R ++ [[110, 101, 120, 116]], false)) := Lib.hid (by
                      unfold jappend
                      rw [if_neg (by simp), if_pos (by rw [list_size, bigS_size]; omega)])
                    have HBZ := Lib.hid bigS_size
                    generalize bigS = S20 at *
                    generalize (bcs (List.replicate 20001 0)).toArray = Z20 at *
                    have hal : Below w15.heap.size w15 (w15.alloc (.cells Z20 5)) := (Below.refl _ _).alloc (Nat.le_refl _) _
                    have H13 := Lib.hid (H12.out.below hal); clear hal H12
                    go_wp2_with fail
                    refine (hAppend_is H13.out (by have := HBZ.out; omega) in1 HT.out S20 (by have := HBZ.out; omega) hbf HBIG.out).mono ?_
                    rintro e w16 ⟨rfl, L13, v13, h13, _⟩
                    have H14 := Lib.hid h13; clear h13 H13
                    go_wp2_with fail
                    go_ret
                    exact ⟨rfl, H14.out.bel⟩
            · have ds : decide ((0 : Int) < (sz : Int)) = false := decide_eq_false (by omega)
              have dsn : decide (0 < sz) = false := decide_eq_false hs0
              obtain ⟨m, hm⟩ : ∃ m : Nat, m = (max 0 (min size (sz : Int))).toNat := ⟨_, rfl⟩
              have hmI : max 0 (min size (sz : Int)) = (m : Int) := by omega
              have hmI2 : max (min size (sz : Int)) 0 = (m : Int) := by omega
              have hml : m ≤ sz := by omega
              clear hm
              obtain ⟨C, hC⟩ : ∃ C, C = Z.take m := ⟨_, rfl⟩
              obtain ⟨tn, htn⟩ : ∃ tn : ByteArray, tn = ⟨C.toArray⟩ := ⟨_, rfl⟩
              have HTN : Hid (tn.data.toList = C) := Lib.hid (by rw [htn])
              have hCl : C.length = m := by rw [hC, List.length_take]; omega
              have htsz : tn.size = m := by rw [← list_size, HTN.out, hCl]
              have HDAM : Hid (Dam C (forms LB)) := Lib.hid (by rw [hC]; exact dam_cut (by rw [hZl, HSZ.out]) HZP.out m)
              obtain ⟨g9, c9, hv9, hg9, hgB9, hcl9, hfr9, hc9⟩ := HBZ.out.row.parts
              simp only [Value.slice.injEq, Option.some.injEq, Addr.mk.injEq, and_true] at hv9
              obtain ⟨rfl, hzz, rfl⟩ := hv9; clear hzz
              have hcv2 : (convert 36 9 (.slice (some ⟨g, 0, none⟩) m cap)).run Tryd.prog wr = .ok (.string tn) wr := by
                have := run_convert_bytes_back (P := Tryd.prog) wr 36 9 5 ⟨g, 0, none⟩ cap C Tryd.underlying36 Tryd.underlying5 Tryd.underlying9 (fun q hq => by
                  rw [add_t, hcl9 q (by omega)]
                  simp [hC])
                rw [hCl, ← htn] at this
                exact this
              have hm0 : (0 : Int) ≤ (m : Int) := by omega
              have hmc : (m : Int) ≤ (cap : Int) := by omega
              have hmz : (m : Int) ≤ (sz : Int) := by omega
              have HJ0 := Lib.hid (HE.out.below HBZ.out.bel)
              clear htn hC HZP HBZ hg9 hgB9 hcl9 hfr9 hc9 HE
              go_wp2_with fail
              clear hcv2 hmI hmI2
              go_loopw [18] (fun kk wx => ∃ (k q : Nat), k ≤ ll ∧ kk = .int .i64 k ∧ wx = wr.drewN q ∧ Hid (Stands LB C k)) (fun kk _ => ll - (intOf kk).toNat)
              case atStart => exact ⟨0, 0, Nat.zero_le _, rfl, rfl, Lib.hid (stands_zero _ _)⟩
              case round =>
                obtain ⟨k, q, hk, rfl, rfl, HST⟩ := hrel
                have HJ := Lib.hid (HJ0.out.below (below_drew wr q))
                have k0 : (0 : Int) ≤ (k : Int) := by omega
                have kw : IntKind.i64.wrap ((k : Int) + 1) = (k : Int) + 1 := IntWalk.i64_in _ (by omega)
                by_cases hlt : k < ll
                · have k1 : (k : Int) < (ll : Int) := by omega
                  have d1 : decide ((k : Int) < (ll : Int)) = true := decide_eq_true k1
                  have d1n : decide (k < ll) = true := decide_eq_true hlt
                  obtain ⟨ek, hek⟩ : ∃ ek, ek = (forms (LB.take (k + 1))).length := ⟨_, rfl⟩
                  obtain ⟨ge, ce, hve, hgeB, hgel⟩ := HJ.out.row.form (by rw [ends_len]; omega)
                  rw [ends_len] at hve
                  subst hve
                  have hce : wr.cell? ⟨ge, k, none⟩ = some (.int .i64 (ek : Int)) := by
                    show (wr.drewN q).cell? ⟨ge, k, none⟩ = _
                    have h1 := HJ.out.row
                    rw [ends_len] at h1
                    rw [h1.cellAt k (by omega), ends_at LB ll k hlt, hek]
                  have HAT := Lib.hid hek
                  have hekF : ek ≤ sz := by rw [hek, ← HSZ.out]; exact forms_pre (List.take_prefix _ _)
                  have e0 : (0 : Int) ≤ (ek : Int) := by omega
                  have e1 : (ek : Int) ≤ (sz : Int) := by omega
                  by_cases hc1 : ek ≤ m
                  · have e2 : (ek : Int) ≤ (m : Int) := by omega
                    have d2 : decide ((ek : Int) ≤ (m : Int)) = true := decide_eq_true e2
                    have d2n : decide (ek ≤ m) = true := decide_eq_true hc1
                    by_cases hcc : tn.extract 0 ek = sB.extract 0 ek
                    · have HSN : Hid (Stands LB C (k + 1)) := Lib.hid (by
                        refine stands_next (by rw [← HAT.out, hCl]; exact hc1) ?_
                        rw [← HAT.out]
                        have h2 : (tn.extract 0 ek).data.toList = (sB.extract 0 ek).data.toList := by rw [hcc]
                        rw [show (tn.extract 0 ek) = tn.extract 0 (0 + ek) by rw [Nat.zero_add], show (sB.extract 0 ek) = sB.extract 0 (0 + ek) by rw [Nat.zero_add], ext_part, ext_part, List.drop_zero, List.drop_zero, HTN.out, HSB.out] at h2
                        exact h2)
                      clear hek HST HJ
                      go_wp2_with fail
                      go_quiet (fail)
                      go_wp2_with fail
                      go_roundw
                      case rel => exact ⟨k + 1, _, by omega, by go_num, rfl, HSN⟩
                      case measure => simp [intOf]; omega
                    · have hne := bs_ne hcc
                      have HREC : Hid (recs C = LB.take k) := Lib.hid (torn_many HL400.out HDAM.out (by unfold maxI; omega) (by have := HLL.out; omega) HST.out (fun _ hs => hcc (by
                        refine str_eq ?_
                        rw [show (tn.extract 0 ek) = tn.extract 0 (0 + ek) by rw [Nat.zero_add], show (sB.extract 0 ek) = sB.extract 0 (0 + ek) by rw [Nat.zero_add], ext_part, ext_part, List.drop_zero, List.drop_zero, HTN.out, HSB.out]
                        have := hs.2
                        rw [← HAT.out] at this
                        exact this)))
                      clear hek hcc HJ
                      go_wp2_with fail
                      go_quiet (fail)
                      generalize hwx : World.drewN _ _ = wy
                      have HJ2 : Hid (JE w r L d n rj v 0 LB (.slice (some ⟨ge, 0, none⟩) ll ce) (endsT LB ll) wy) := Lib.hid (by rw [← hwx, drewN_add]; exact HJ0.out.below (below_drew _ _))
                      clear hwx hce hne; have HJ := HJ2; clear HJ2
                      clear HST HAT
                      obtain ⟨R, hR⟩ : ∃ R, R = LB.take k := ⟨_, rfl⟩
                      have hRl : R.length = k := by rw [hR, List.length_take]; have := HLL.out; omega
                      have hRF : (forms R).length ≤ 1928 := by rw [hR]; exact HFK.out k
                      have HSR : Hid (TRow (fun _ => False) w A R) := Lib.hid (by rw [hR]; exact srow_take HLB.out HA.out k)
                      have HREC2 : Hid (recs C = R) := Lib.hid (by rw [hR]; exact HREC.out)
                      clear hR HREC
                      go_wp2_with fail
                      refine (jWrite HJ.out.jh (by omega) in1 in0 tn (by omega)).mono ?_
                      rintro e wC ⟨rfl, L10, h10, _⟩
                      have H10 := Lib.hid h10; clear h10 HJ
                      obtain ⟨a1, a2⟩ := Dk.write_up HUP.out.1 ok1 (a := 0) (s := tn.data.toList) (by omega) (by rw [list_size]; omega)
                      have hnw : (d.write 1 0 tn.data.toList).1.now 1 = C := by rw [a2.now, upd_same, HUP.out.2.2.1, HTN.out]; exact put_none _
                      have hlo : (d.write 1 0 tn.data.toList).1.lost = 0 := a2.lost.trans HUP.out.2.2.2
                      obtain ⟨o1, o2, o3⟩ := jopen_up a2.up H10.out.disk.ok ok1 hlo
                      rw [hnw, HREC2.out] at o2 o3
                      have O1 := Lib.hid o1; have O2 := Lib.hid o2; have O3 := Lib.hid o3
                      clear a1 a2 hnw hlo o1 o2 o3 HREC2
                      generalize (d.write 1 0 tn.data.toList).1 = d2 at *
                      go_wp2_with fail
                      refine (hOpen_ok H10.out.held (by omega) in1 O1.out).mono ?_
                      rintro e wD ⟨L11, rk, vk, rfl, h11, _⟩
                      rw [O2.out] at h11
                      have H11 := Lib.hid h11; clear h11 H10 O1 O2
                      have hn3 : (jopen d2 1).1.now 1 = forms R := O3.out.kept.now
                      have hup3 := O3.out.up
                      clear O3
                      generalize (jopen d2 1).1 = d3 at *
                      have HALL : Hid (∀ w', Hid (Below wD.heap.size wD w') → Calls Tryd.prog 13 #[.pointer (some ⟨rk, 0, none⟩)] w' (fun e w9 => ∃ A9 c9, e = .returned (.slice A9 k c9) ∧ Hid (TRow (MO r L11 rk vk) w9 A9 R) ∧ Below w'.heap.size w' w9)) := Lib.hid (fun w' hw => by
                        have := hAll (H11.out.below hw.out) (by omega)
                        refine this.mono fun e w9 h => ?_
                        obtain ⟨A9, c9, he, _, h1, h2, h3⟩ := h
                        rw [hRl] at he
                        exact ⟨A9, c9, he, Lib.hid h1, h3⟩)
                      have HSAME : Hid (∀ (w' : World) (A9 : Option Addr) (c9 : Nat), Hid (TRow (MO r L11 rk vk) w' A9 R) → Hid (Below wD.heap.size wD w') → Calls Tryd.prog 12 #[.slice A9 k c9, .slice A k cA] w' fun e w2 => e = .returned (.bool true) ∧ Below w'.heap.size w' w2) := Lib.hid (fun w' A9 c9 h1 h2 => by
                        have := sameT_any A9 c9 A cA R w' h1.out (HSR.out.below (H11.out.bel.trans (h2.out.mono H11.out.bel.size))) (by omega)
                        rw [hRl] at this
                        exact this)
                      have hkc : (k : Int) ≤ (cA : Int) := by have := HLL.out; omega
                      have hk0 : (0 : Int) ≤ (k : Int) := by omega
                      have K0 : Hid (Below wD.heap.size wD wD) := Lib.hid (Below.refl _ _)
                      go_wp2_with fail
                      go_region_held3 (fun w' => Hid (Below wD.heap.size wD w'))
                        (first | exact K0 | exact bw_drew K0 1 | exact bw_go ‹_› ‹_›)
                        (first
                          | (go_at_call 13; refine (HALL.out _ ?_).mono ?_; assumption; rintro e w9 ⟨A9, c9, rfl, hr9, hb9⟩)
                          | (go_at_call 12; refine (HSAME.out _ _ _ ?_ ?_).mono ?_; assumption; assumption; rintro e w10 ⟨rfl, hb10⟩)
                          | fail)
                      all_goals
                        have KZ : Hid (Below wD.heap.size wD w10) := by assumption
                        have HJ10 := Lib.hid (H11.out.below KZ.out); clear KZ
                        clear HALL HSAME HSR K0
                        have hnx : (ByteArray.mk #[110, 101, 120, 116]).size = 4 := rfl
                        obtain ⟨d4, b1, b2⟩ := jappend_up hup3 ok1 hn3 (s := [110, 101, 120, 116]) (by decide) (by have : (form [110, 101, 120, 116]).length ≤ 45 := (form_len _ (by decide)).2; omega)
                        have B1' := Lib.hid b1; clear b1
                        go_wp2_with fail
                        refine (hAppend_is HJ10.out (by omega) in1 HT.out ⟨#[110, 101, 120, 116]⟩ (by decide) (by omega) B1'.out).mono ?_
                        rintro e w11 ⟨rfl, L12, v12, h12, _⟩
                        have H12 := Lib.hid h12; clear h12 HJ10
                        have hl12 : (R ++ [[110, 101, 120, 116]]).length = k + 1 := by simp [hRl]
                        have hbf : (forms (R ++ [[110, 101, 120, 116]])).length ≤ 16777216 := by
                          have : (form [110, 101, 120, 116]).length ≤ 45 := (form_len _ (by decide)).2
                          rw [forms_snoc, List.length_append]; omega
                        go_wp2_with fail
                        refine (jlen_any H12.out.jrn (by omega)).mono ?_
                        rintro e w12 ⟨he, rfl⟩
                        rw [hl12] at he
                        subst he
                        have q1 : IntKind.i64.wrap ((k : Int) + 1) = (k : Int) + 1 := IntWalk.i64_in _ (by omega)
                        have q2 : (((k + 1 : Nat) : Int)) = (k : Int) + 1 := by omega
                        go_wp2_with fail
                        refine (jget_in H12.out.jrn (by omega) k (by omega)).mono ?_
                        rintro e w13 ⟨he, rfl⟩
                        have hgk : (R ++ [[110, 101, 120, 116]])[k]'(by omega) = [110, 101, 120, 116] := by
                          rw [List.getElem_append_right (by omega)]; simp [hRl]
                        rw [hgk] at he
                        obtain rfl : e = .returned (.string ⟨#[110, 101, 120, 116]⟩) := he
                        go_wp2_with fail
                        refine (jget_out H12.out.jrn (by omega) ((k : Int) + 1) (Or.inr (by omega))).mono ?_
                        rintro e w14 ⟨rfl, rfl⟩
                        go_wp2_with fail
                        refine (jget_out H12.out.jrn (by omega) (-1) (Or.inl (by omega))).mono ?_
                        rintro e w15 ⟨rfl, rfl⟩
                        have hmk := mkByte
                        have hbk := backByte
                        have HBIG : Hid (jappend d4 1 (R ++ [[110, 101, 120, 116]]) false bigS.data.toList = (d4, 3, R ++ [[110, 101, 120, 116]], false)) := Lib.hid (by
                          unfold jappend
                          rw [if_neg (by simp), if_pos (by rw [list_size, bigS_size]; omega)])
                        have HBZ := Lib.hid bigS_size
                        generalize bigS = S20 at *
                        generalize (bcs (List.replicate 20001 0)).toArray = Z20 at *
                        have hal : Below w15.heap.size w15 (w15.alloc (.cells Z20 5)) := (Below.refl _ _).alloc (Nat.le_refl _) _
                        have H13 := Lib.hid (H12.out.below hal); clear hal H12
                        go_wp2_with fail
                        refine (hAppend_is H13.out (by have := HBZ.out; omega) in1 HT.out S20 (by have := HBZ.out; omega) hbf HBIG.out).mono ?_
                        rintro e w16 ⟨rfl, L13, v13, h13, _⟩
                        have H14 := Lib.hid h13; clear h13 H13
                        go_wp2_with fail
                        go_ret
                        exact ⟨rfl, H14.out.bel⟩
                  · have d2 : decide ((ek : Int) ≤ (m : Int)) = false := decide_eq_false (by omega)
                    have d2n : decide (ek ≤ m) = false := decide_eq_false hc1
                    have HREC : Hid (recs C = LB.take k) := Lib.hid (torn_many HL400.out HDAM.out (by unfold maxI; omega) (by have := HLL.out; omega) HST.out (fun _ hs => hc1 (by have := hs.1; rw [← HAT.out, hCl] at this; exact this)))
                    clear hek hc1 HJ
                    go_wp2_with fail
                    go_quiet (fail)
                    generalize hwx : World.drewN _ _ = wy
                    have HJ2 : Hid (JE w r L d n rj v 0 LB (.slice (some ⟨ge, 0, none⟩) ll ce) (endsT LB ll) wy) := Lib.hid (by rw [← hwx, drewN_add]; exact HJ0.out.below (below_drew _ _))
                    clear hwx hce; have HJ := HJ2; clear HJ2
                    clear HST HAT
                    obtain ⟨R, hR⟩ : ∃ R, R = LB.take k := ⟨_, rfl⟩
                    have hRl : R.length = k := by rw [hR, List.length_take]; have := HLL.out; omega
                    have hRF : (forms R).length ≤ 1928 := by rw [hR]; exact HFK.out k
                    have HSR : Hid (TRow (fun _ => False) w A R) := Lib.hid (by rw [hR]; exact srow_take HLB.out HA.out k)
                    have HREC2 : Hid (recs C = R) := Lib.hid (by rw [hR]; exact HREC.out)
                    clear hR HREC
                    go_wp2_with fail
                    refine (jWrite HJ.out.jh (by omega) in1 in0 tn (by omega)).mono ?_
                    rintro e wC ⟨rfl, L10, h10, _⟩
                    have H10 := Lib.hid h10; clear h10 HJ
                    obtain ⟨a1, a2⟩ := Dk.write_up HUP.out.1 ok1 (a := 0) (s := tn.data.toList) (by omega) (by rw [list_size]; omega)
                    have hnw : (d.write 1 0 tn.data.toList).1.now 1 = C := by rw [a2.now, upd_same, HUP.out.2.2.1, HTN.out]; exact put_none _
                    have hlo : (d.write 1 0 tn.data.toList).1.lost = 0 := a2.lost.trans HUP.out.2.2.2
                    obtain ⟨o1, o2, o3⟩ := jopen_up a2.up H10.out.disk.ok ok1 hlo
                    rw [hnw, HREC2.out] at o2 o3
                    have O1 := Lib.hid o1; have O2 := Lib.hid o2; have O3 := Lib.hid o3
                    clear a1 a2 hnw hlo o1 o2 o3 HREC2
                    generalize (d.write 1 0 tn.data.toList).1 = d2 at *
                    go_wp2_with fail
                    refine (hOpen_ok H10.out.held (by omega) in1 O1.out).mono ?_
                    rintro e wD ⟨L11, rk, vk, rfl, h11, _⟩
                    rw [O2.out] at h11
                    have H11 := Lib.hid h11; clear h11 H10 O1 O2
                    have hn3 : (jopen d2 1).1.now 1 = forms R := O3.out.kept.now
                    have hup3 := O3.out.up
                    clear O3
                    generalize (jopen d2 1).1 = d3 at *
                    have HALL : Hid (∀ w', Hid (Below wD.heap.size wD w') → Calls Tryd.prog 13 #[.pointer (some ⟨rk, 0, none⟩)] w' (fun e w9 => ∃ A9 c9, e = .returned (.slice A9 k c9) ∧ Hid (TRow (MO r L11 rk vk) w9 A9 R) ∧ Below w'.heap.size w' w9)) := Lib.hid (fun w' hw => by
                      have := hAll (H11.out.below hw.out) (by omega)
                      refine this.mono fun e w9 h => ?_
                      obtain ⟨A9, c9, he, _, h1, h2, h3⟩ := h
                      rw [hRl] at he
                      exact ⟨A9, c9, he, Lib.hid h1, h3⟩)
                    have HSAME : Hid (∀ (w' : World) (A9 : Option Addr) (c9 : Nat), Hid (TRow (MO r L11 rk vk) w' A9 R) → Hid (Below wD.heap.size wD w') → Calls Tryd.prog 12 #[.slice A9 k c9, .slice A k cA] w' fun e w2 => e = .returned (.bool true) ∧ Below w'.heap.size w' w2) := Lib.hid (fun w' A9 c9 h1 h2 => by
                      have := sameT_any A9 c9 A cA R w' h1.out (HSR.out.below (H11.out.bel.trans (h2.out.mono H11.out.bel.size))) (by omega)
                      rw [hRl] at this
                      exact this)
                    have hkc : (k : Int) ≤ (cA : Int) := by have := HLL.out; omega
                    have hk0 : (0 : Int) ≤ (k : Int) := by omega
                    have K0 : Hid (Below wD.heap.size wD wD) := Lib.hid (Below.refl _ _)
                    go_wp2_with fail
                    go_region_held3 (fun w' => Hid (Below wD.heap.size wD w'))
                      (first | exact K0 | exact bw_drew K0 1 | exact bw_go ‹_› ‹_›)
                      (first
                        | (go_at_call 13; refine (HALL.out _ ?_).mono ?_; assumption; rintro e w9 ⟨A9, c9, rfl, hr9, hb9⟩)
                        | (go_at_call 12; refine (HSAME.out _ _ _ ?_ ?_).mono ?_; assumption; assumption; rintro e w10 ⟨rfl, hb10⟩)
                        | fail)
                    all_goals
                      have KZ : Hid (Below wD.heap.size wD w10) := by assumption
                      have HJ10 := Lib.hid (H11.out.below KZ.out); clear KZ
                      clear HALL HSAME HSR K0
                      have hnx : (ByteArray.mk #[110, 101, 120, 116]).size = 4 := rfl
                      obtain ⟨d4, b1, b2⟩ := jappend_up hup3 ok1 hn3 (s := [110, 101, 120, 116]) (by decide) (by have : (form [110, 101, 120, 116]).length ≤ 45 := (form_len _ (by decide)).2; omega)
                      have B1' := Lib.hid b1; clear b1
                      go_wp2_with fail
                      refine (hAppend_is HJ10.out (by omega) in1 HT.out ⟨#[110, 101, 120, 116]⟩ (by decide) (by omega) B1'.out).mono ?_
                      rintro e w11 ⟨rfl, L12, v12, h12, _⟩
                      have H12 := Lib.hid h12; clear h12 HJ10
                      have hl12 : (R ++ [[110, 101, 120, 116]]).length = k + 1 := by simp [hRl]
                      have hbf : (forms (R ++ [[110, 101, 120, 116]])).length ≤ 16777216 := by
                        have : (form [110, 101, 120, 116]).length ≤ 45 := (form_len _ (by decide)).2
                        rw [forms_snoc, List.length_append]; omega
                      go_wp2_with fail
                      refine (jlen_any H12.out.jrn (by omega)).mono ?_
                      rintro e w12 ⟨he, rfl⟩
                      rw [hl12] at he
                      subst he
                      have q1 : IntKind.i64.wrap ((k : Int) + 1) = (k : Int) + 1 := IntWalk.i64_in _ (by omega)
                      have q2 : (((k + 1 : Nat) : Int)) = (k : Int) + 1 := by omega
                      go_wp2_with fail
                      refine (jget_in H12.out.jrn (by omega) k (by omega)).mono ?_
                      rintro e w13 ⟨he, rfl⟩
                      have hgk : (R ++ [[110, 101, 120, 116]])[k]'(by omega) = [110, 101, 120, 116] := by
                        rw [List.getElem_append_right (by omega)]; simp [hRl]
                      rw [hgk] at he
                      obtain rfl : e = .returned (.string ⟨#[110, 101, 120, 116]⟩) := he
                      go_wp2_with fail
                      refine (jget_out H12.out.jrn (by omega) ((k : Int) + 1) (Or.inr (by omega))).mono ?_
                      rintro e w14 ⟨rfl, rfl⟩
                      go_wp2_with fail
                      refine (jget_out H12.out.jrn (by omega) (-1) (Or.inl (by omega))).mono ?_
                      rintro e w15 ⟨rfl, rfl⟩
                      have hmk := mkByte
                      have hbk := backByte
                      have HBIG : Hid (jappend d4 1 (R ++ [[110, 101, 120, 116]]) false bigS.data.toList = (d4, 3, R ++ [[110, 101, 120, 116]], false)) := Lib.hid (by
                        unfold jappend
                        rw [if_neg (by simp), if_pos (by rw [list_size, bigS_size]; omega)])
                      have HBZ := Lib.hid bigS_size
                      generalize bigS = S20 at *
                      generalize (bcs (List.replicate 20001 0)).toArray = Z20 at *
                      have hal : Below w15.heap.size w15 (w15.alloc (.cells Z20 5)) := (Below.refl _ _).alloc (Nat.le_refl _) _
                      have H13 := Lib.hid (H12.out.below hal); clear hal H12
                      go_wp2_with fail
                      refine (hAppend_is H13.out (by have := HBZ.out; omega) in1 HT.out S20 (by have := HBZ.out; omega) hbf HBIG.out).mono ?_
                      rintro e w16 ⟨rfl, L13, v13, h13, _⟩
                      have H14 := Lib.hid h13; clear h13 H13
                      go_wp2_with fail
                      go_ret
                      exact ⟨rfl, H14.out.bel⟩
                · obtain rfl : k = ll := by omega
                  have d1 : decide ((k : Int) < (k : Int)) = false := decide_eq_false (by omega)
                  have d1n : decide (k < k) = false := decide_eq_false (by omega)
                  have HREC : Hid (recs C = LB.take k) := Lib.hid (torn_many HL400.out HDAM.out (by unfold maxI; omega) (by have := HLL.out; omega) HST.out (fun h => absurd h (by have := HLL.out; omega)))
                  obtain ⟨Ae, ce, hve, _⟩ := own_slice2 HJ.out.row
                  rw [ends_len] at hve
                  subst hve
                  have HAT := Lib.hid (rfl : k = k)
                  clear HJ
                  go_wp2_with fail
                  go_quiet (fail)
                  generalize hwx : World.drewN _ _ = wy
                  have HJ2 : Hid (JE w r L d n rj v 0 LB (.slice Ae k ce) (endsT LB k) wy) := Lib.hid (by rw [← hwx, drewN_add]; exact HJ0.out.below (below_drew _ _))
                  clear hwx; have HJ := HJ2; clear HJ2
                  clear HST HAT
                  obtain ⟨R, hR⟩ : ∃ R, R = LB.take k := ⟨_, rfl⟩
                  have hRl : R.length = k := by rw [hR, List.length_take]; have := HLL.out; omega
                  have hRF : (forms R).length ≤ 1928 := by rw [hR]; exact HFK.out k
                  have HSR : Hid (TRow (fun _ => False) w A R) := Lib.hid (by rw [hR]; exact srow_take HLB.out HA.out k)
                  have HREC2 : Hid (recs C = R) := Lib.hid (by rw [hR]; exact HREC.out)
                  clear hR HREC
                  go_wp2_with fail
                  refine (jWrite HJ.out.jh (by omega) in1 in0 tn (by omega)).mono ?_
                  rintro e wC ⟨rfl, L10, h10, _⟩
                  have H10 := Lib.hid h10; clear h10 HJ
                  obtain ⟨a1, a2⟩ := Dk.write_up HUP.out.1 ok1 (a := 0) (s := tn.data.toList) (by omega) (by rw [list_size]; omega)
                  have hnw : (d.write 1 0 tn.data.toList).1.now 1 = C := by rw [a2.now, upd_same, HUP.out.2.2.1, HTN.out]; exact put_none _
                  have hlo : (d.write 1 0 tn.data.toList).1.lost = 0 := a2.lost.trans HUP.out.2.2.2
                  obtain ⟨o1, o2, o3⟩ := jopen_up a2.up H10.out.disk.ok ok1 hlo
                  rw [hnw, HREC2.out] at o2 o3
                  have O1 := Lib.hid o1; have O2 := Lib.hid o2; have O3 := Lib.hid o3
                  clear a1 a2 hnw hlo o1 o2 o3 HREC2
                  generalize (d.write 1 0 tn.data.toList).1 = d2 at *
                  go_wp2_with fail
                  refine (hOpen_ok H10.out.held (by omega) in1 O1.out).mono ?_
                  rintro e wD ⟨L11, rk, vk, rfl, h11, _⟩
                  rw [O2.out] at h11
                  have H11 := Lib.hid h11; clear h11 H10 O1 O2
                  have hn3 : (jopen d2 1).1.now 1 = forms R := O3.out.kept.now
                  have hup3 := O3.out.up
                  clear O3
                  generalize (jopen d2 1).1 = d3 at *
                  have HALL : Hid (∀ w', Hid (Below wD.heap.size wD w') → Calls Tryd.prog 13 #[.pointer (some ⟨rk, 0, none⟩)] w' (fun e w9 => ∃ A9 c9, e = .returned (.slice A9 k c9) ∧ Hid (TRow (MO r L11 rk vk) w9 A9 R) ∧ Below w'.heap.size w' w9)) := Lib.hid (fun w' hw => by
                    have := hAll (H11.out.below hw.out) (by omega)
                    refine this.mono fun e w9 h => ?_
                    obtain ⟨A9, c9, he, _, h1, h2, h3⟩ := h
                    rw [hRl] at he
                    exact ⟨A9, c9, he, Lib.hid h1, h3⟩)
                  have HSAME : Hid (∀ (w' : World) (A9 : Option Addr) (c9 : Nat), Hid (TRow (MO r L11 rk vk) w' A9 R) → Hid (Below wD.heap.size wD w') → Calls Tryd.prog 12 #[.slice A9 k c9, .slice A k cA] w' fun e w2 => e = .returned (.bool true) ∧ Below w'.heap.size w' w2) := Lib.hid (fun w' A9 c9 h1 h2 => by
                    have := sameT_any A9 c9 A cA R w' h1.out (HSR.out.below (H11.out.bel.trans (h2.out.mono H11.out.bel.size))) (by omega)
                    rw [hRl] at this
                    exact this)
                  have hkc : (k : Int) ≤ (cA : Int) := by have := HLL.out; omega
                  have hk0 : (0 : Int) ≤ (k : Int) := by omega
                  have K0 : Hid (Below wD.heap.size wD wD) := Lib.hid (Below.refl _ _)
                  go_wp2_with fail
                  go_region_held3 (fun w' => Hid (Below wD.heap.size wD w'))
                    (first | exact K0 | exact bw_drew K0 1 | exact bw_go ‹_› ‹_›)
                    (first
                      | (go_at_call 13; refine (HALL.out _ ?_).mono ?_; assumption; rintro e w9 ⟨A9, c9, rfl, hr9, hb9⟩)
                      | (go_at_call 12; refine (HSAME.out _ _ _ ?_ ?_).mono ?_; assumption; assumption; rintro e w10 ⟨rfl, hb10⟩)
                      | fail)
                  all_goals
                    have KZ : Hid (Below wD.heap.size wD w10) := by assumption
                    have HJ10 := Lib.hid (H11.out.below KZ.out); clear KZ
                    clear HALL HSAME HSR K0
                    have hnx : (ByteArray.mk #[110, 101, 120, 116]).size = 4 := rfl
                    obtain ⟨d4, b1, b2⟩ := jappend_up hup3 ok1 hn3 (s := [110, 101, 120, 116]) (by decide) (by have : (form [110, 101, 120, 116]).length ≤ 45 := (form_len _ (by decide)).2; omega)
                    have B1' := Lib.hid b1; clear b1
                    go_wp2_with fail
                    refine (hAppend_is HJ10.out (by omega) in1 HT.out ⟨#[110, 101, 120, 116]⟩ (by decide) (by omega) B1'.out).mono ?_
                    rintro e w11 ⟨rfl, L12, v12, h12, _⟩
                    have H12 := Lib.hid h12; clear h12 HJ10
                    have hl12 : (R ++ [[110, 101, 120, 116]]).length = k + 1 := by simp [hRl]
                    have hbf : (forms (R ++ [[110, 101, 120, 116]])).length ≤ 16777216 := by
                      have : (form [110, 101, 120, 116]).length ≤ 45 := (form_len _ (by decide)).2
                      rw [forms_snoc, List.length_append]; omega
                    go_wp2_with fail
                    refine (jlen_any H12.out.jrn (by omega)).mono ?_
                    rintro e w12 ⟨he, rfl⟩
                    rw [hl12] at he
                    subst he
                    have q1 : IntKind.i64.wrap ((k : Int) + 1) = (k : Int) + 1 := IntWalk.i64_in _ (by omega)
                    have q2 : (((k + 1 : Nat) : Int)) = (k : Int) + 1 := by omega
                    go_wp2_with fail
                    refine (jget_in H12.out.jrn (by omega) k (by omega)).mono ?_
                    rintro e w13 ⟨he, rfl⟩
                    have hgk : (R ++ [[110, 101, 120, 116]])[k]'(by omega) = [110, 101, 120, 116] := by
                      rw [List.getElem_append_right (by omega)]; simp [hRl]
                    rw [hgk] at he
                    obtain rfl : e = .returned (.string ⟨#[110, 101, 120, 116]⟩) := he
                    go_wp2_with fail
                    refine (jget_out H12.out.jrn (by omega) ((k : Int) + 1) (Or.inr (by omega))).mono ?_
                    rintro e w14 ⟨rfl, rfl⟩
                    go_wp2_with fail
                    refine (jget_out H12.out.jrn (by omega) (-1) (Or.inl (by omega))).mono ?_
                    rintro e w15 ⟨rfl, rfl⟩
                    have hmk := mkByte
                    have hbk := backByte
                    have HBIG : Hid (jappend d4 1 (R ++ [[110, 101, 120, 116]]) false bigS.data.toList = (d4, 3, R ++ [[110, 101, 120, 116]], false)) := Lib.hid (by
                      unfold jappend
                      rw [if_neg (by simp), if_pos (by rw [list_size, bigS_size]; omega)])
                    have HBZ := Lib.hid bigS_size
                    generalize bigS = S20 at *
                    generalize (bcs (List.replicate 20001 0)).toArray = Z20 at *
                    have hal : Below w15.heap.size w15 (w15.alloc (.cells Z20 5)) := (Below.refl _ _).alloc (Nat.le_refl _) _
                    have H13 := Lib.hid (H12.out.below hal); clear hal H12
                    go_wp2_with fail
                    refine (hAppend_is H13.out (by have := HBZ.out; omega) in1 HT.out S20 (by have := HBZ.out; omega) hbf HBIG.out).mono ?_
                    rintro e w16 ⟨rfl, L13, v13, h13, _⟩
                    have H14 := Lib.hid h13; clear h13 H13
                    go_wp2_with fail
                    go_ret
                    exact ⟨rfl, H14.out.bel⟩
end Go.Proofs.YtncadnmoiiiahaaDoor
