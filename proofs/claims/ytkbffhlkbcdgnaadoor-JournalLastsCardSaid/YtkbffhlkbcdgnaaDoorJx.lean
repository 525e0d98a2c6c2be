/-
  Steps of a region that draws its order: an append of however many elements, an append of nothing.
-/
import Derived.Test.YtkbffhlkbcdgnaaDoorJr
import Derived.Deep.AppendLies
import Derived.Laws.AppendOwnNone
set_option linter.unusedVariables false
set_option maxRecDepth 100000
namespace Go.Proofs.YtkbffhlkbcdgnaaDoor
open Go.RowKit W

section
variable {P : Program} {w : World}
theorem wpList_append_want {ops : Array Oper} {rest : List Oper} {o : Oper} {a : Act} {Q : Exit → Act → World → Prop} (hw : Region.wanted o (yielded ops a.tmps) = true) (s x : Operand) (t : TypeId)
    (ho : o.op = .call { callee := .builtin .append, args := #[s, x], argTypes := #[t, t] })
    (base : Nat) (e : TypeId) (i : TypeInfo) (z : Value) (size bytes : Nat) (ht : P.underlying t = some (.slice e)) (hi : P.info? e = some i) (hz : i.zero = some z)
    (hsize : i.size = size) (hby : i.bytes = bytes) (hzs : z.cells.size = size) (hsz : 0 < size)
    (v : Value) (n : Nat) (xs : List Value) (hs : a.eval s = v) (hown : w.ownsRow base e size v n xs)
    (ad : Addr) (m c : Nat) (news : List Value) (hx : a.eval x = .slice (some ad) m c) (hl : news.length = m * size) (hnews : ∀ j u, news[j]? = some u → w.cell? (ad.add j) = some u) (h1 : ∀ u ∈ news, u.oneCell' = true)
    (h63 : n + m ≤ maxLen) (hbytes : (n + m) * bytes ≤ 140737488355328) (hbase : base ≤ w.heap.size)
    (h : ∀ v' w', w'.ownsRow base e size v' (n + m) (xs ++ news) → w.grownBy w' v.ownBlock → (v' = .slice none 0 0 ↔ v = .slice none 0 0 ∧ m = 0) → wpList P ops Q rest (a.put o.dst v') w') : wpList P ops Q (o :: rest) a w :=
  BigFrame.wpList_want hw fun _ hK => wp_append_own w s x t ho base e i z size bytes ht hi hz hsize hby hzs hsz v n xs hs hown ad m c news hx hl hnews h1 h63 hbytes hbase fun v' w' h2 h3 h4 => hK _ _ (h v' w' h2 h3 h4)

theorem step_append_any {ops : Array Oper} {o : Oper} {a : Act} {K : Act → World → Prop} {Q : Exit → Act → World → Prop} {E : Prop} (hgd : o.guard = none) (s x : Operand) (t : TypeId)
    (ho : o.op = .call { callee := .builtin .append, args := #[s, x], argTypes := #[t, t] })
    (base : Nat) (e : TypeId) (i : TypeInfo) (z : Value) (size bytes : Nat) (hty : P.underlying t = some (.slice e)) (hi : P.info? e = some i) (hz : i.zero = some z)
    (hsize : i.size = size) (hby : i.bytes = bytes) (hzs : z.cells.size = size) (hsz : 0 < size)
    (v : Value) (n : Nat) (xs : List Value) (hs : a.eval s = v) (hown : w.ownsRow base e size v n xs)
    (ad : Addr) (m c : Nat) (news : List Value) (hx : a.eval x = .slice (some ad) m c) (hl : news.length = m * size) (hnews : ∀ j u, news[j]? = some u → w.cell? (ad.add j) = some u) (h1 : ∀ u ∈ news, u.oneCell' = true)
    (h63 : n + m ≤ maxLen) (hbytes : (n + m) * bytes ≤ 140737488355328) (hbase : base ≤ w.heap.size)
    (h : ∀ v' w', w'.ownsRow base e size v' (n + m) (xs ++ news) → w.grownBy w' v.ownBlock → K (a.put o.dst v') w') :
    if Region.wanted o (yielded ops a.tmps) = true then Oper.wp P o a w K Q else E := by
  have hw : Region.wanted o (yielded ops a.tmps) = true := by simp [Region.wanted, hgd]
  rw [if_pos hw]
  exact wp_append_own w s x t ho base e i z size bytes hty hi hz hsize hby hzs hsz v n xs hs hown ad m c news hx hl hnews h1 h63 hbytes hbase fun v' w' h2 h3 _ => h v' w' h2 h3
theorem step_append_none {ops : Array Oper} {o : Oper} {a : Act} {K : Act → World → Prop} {Q : Exit → Act → World → Prop} {E : Prop} (hgd : o.guard = none) (s x : Operand) (t : TypeId)
    (ho : o.op = .call { callee := .builtin .append, args := #[s, x], argTypes := #[t, t] })
    (base : Nat) (e : TypeId) (i : TypeInfo) (size : Nat) (hty : P.underlying t = some (.slice e)) (hi : P.info? e = some i)
    (v : Value) (n : Nat) (xs : List Value) (hs : a.eval s = v) (hown : w.ownsRow base e size v n xs) (hx : a.eval x = .slice none 0 0)
    (h : K (a.put o.dst v) w) :
    if Region.wanted o (yielded ops a.tmps) = true then Oper.wp P o a w K Q else E := by
  have hw : Region.wanted o (yielded ops a.tmps) = true := by simp [Region.wanted, hgd]
  rw [if_pos hw]
  have hrun := run_append_owned_none (P := P) (w := w) base t o.type e i size hty hi v n xs hown
  unfold Oper.wp
  simp [execOp, ho, resolve, invoke, builtin, hs, hx, hrun, Result.andThen]
  exact h
/-- .. told over the world in which the statement began. -/
theorem step_app {ops : Array Oper} {o : Oper} {a : Act} {K : Act → World → Prop} {Q : Exit → Act → World → Prop} {E : Prop} (hgd : o.guard = none) (s x : Operand) (t : TypeId)
    (ho : o.op = .call { callee := .builtin .append, args := #[s, x], argTypes := #[t, t] })
    (Y : World) (e : TypeId) (i : TypeInfo) (z : Value) (bytes : Nat) (hty : P.underlying t = some (.slice e)) (hi : P.info? e = some i) (hz : i.zero = some z)
    (hsize : i.size = 1) (hby : i.bytes = bytes) (hzs : z.cells.size = 1)
    (v : Value) (n : Nat) (xs : List Value) (hs : a.eval s = v) (hown : w.ownsRow Y.heap.size e 1 v n xs) (hY : Below Y.heap.size Y w)
    (ad : Addr) (m c : Nat) (news : List Value) (hx : a.eval x = .slice (some ad) m c) (hl : news.length = m) (hnews : ∀ j u, news[j]? = some u → w.cell? (ad.add j) = some u) (h1 : ∀ u ∈ news, u.oneCell' = true)
    (h63 : n + m ≤ maxLen) (hbytes : (n + m) * bytes ≤ 140737488355328)
    (h : ∀ v' w', w'.ownsRow Y.heap.size e 1 v' (n + m) (xs ++ news) → Below Y.heap.size Y w' → w.grownBy w' v.ownBlock → K (a.put o.dst v') w') :
    if Region.wanted o (yielded ops a.tmps) = true then Oper.wp P o a w K Q else E :=
  step_append_any hgd s x t ho Y.heap.size e i z 1 bytes hty hi hz hsize hby hzs (by decide) v n xs hs hown ad m c news hx (by omega) hnews h1 h63 hbytes hY.size
    fun v' w' h2 h3 => h v' w' h2 (hY.grown h3 hY.size (fun k hk => (hown.lt k hk).1)) h3
end

/-- a block of the law's own, that is none of O. -/
def OBox (O : Nat → Prop) (ob : Nat) (c : Array Value) (w : World) : Prop := w.heap[ob]? = some (.cells c 34 (0, 0)) ∧ ¬ O ob
theorem OBox.step {O O' : Nat → Prop} {ob : Nat} {c : Array Value} {w w' : World} (h : OBox O ob c w) (k : MStep O O' w w') : OBox O' ob c w' :=
  ⟨(k.fr.block ob (brow_lt h.1) h.2).trans h.1, fun ho => by
    rcases k.own ob ho with h1 | h1
    · exact h.2 h1
    · have := brow_lt h.1
      omega⟩
theorem OBox.below {O : Nat → Prop} {ob : Nat} {c : Array Value} {w w' : World} (h : OBox O ob c w) (hb : Below w.heap.size w w') : OBox O ob c w' := h.step (MStep.of_below hb)
theorem OBox.cell {O : Nat → Prop} {ob : Nat} {c : Array Value} {w : World} (h : OBox O ob c w) (i : Nat) (u : Value) (hu : c[i]? = some u) : w.cell? ⟨ob, i, none⟩ = some u := by rw [Lib.cell_of_heap h.1]; exact hu

/-- .. and of one slice of the law's own. -/
def MOX (r : Nat) (L : Lay) (rj : Nat) (v vb : Value) (b : Nat) : Prop := MO r L rj v b ∨ vb.ownBlock = some b
theorem MStep.more {r : Nat} {L L' : Lay} {rj : Nat} {v v' : Value} {w w' : World} (k : MStep (MO r L rj v) (MO r L' rj v') w w') (vb : Value) : MStep (MOX r L rj v vb) (MOX r L' rj v' vb) w w' :=
  ⟨k.fr.widen fun b hb => .inl hb, fun b hb => by
    rcases hb with hb | hb
    · exact (k.own b hb).imp .inl id
    · exact .inl (.inr hb)⟩
theorem TRow.fresh {r : Nat} {L : Lay} {rj : Nat} {v vb : Value} {w w' : World} {A : Option Addr} {R : List (List UInt8)} (h : TRow (MO r L rj v) w A R) (hb : Below w.heap.size w w') (hX : ∀ b, vb.ownBlock = some b → w.heap.size ≤ b) : TRow (MOX r L rj v vb) w' A R := by
  refine TRow.below (fun h0 => ?_) hb
  obtain ⟨b, off, e, hl, hn, hc⟩ := h h0
  exact ⟨b, off, e, hl, fun ho => by
    rcases ho with ho | ho
    · exact hn ho
    · have := hX b ho
      omega, hc⟩
theorem TRow.less {r : Nat} {L : Lay} {rj : Nat} {v vb : Value} {w : World} {A : Option Addr} {R : List (List UInt8)} (h : TRow (MOX r L rj v vb) w A R) : TRow (MO r L rj v) w A R := h.sub fun b _ hb => .inl hb
theorem bal {Y W : World} (h : Below Y.heap.size Y W) (o : Obj) : Below Y.heap.size Y (W.alloc o) := h.alloc h.size o
theorem za_below (Y : World) (o : Obj) : Below Y.heap.size Y (Y.alloc o).drew := (below_alloc Y o).trans ⟨rfl, rfl, rfl, Nat.le_refl _, fun _ _ => rfl⟩
theorem zb_below (Y : World) (o o2 : Obj) : Below Y.heap.size Y ((Y.alloc o).alloc o2).drew := (bal (below_alloc Y o) o2).trans ⟨rfl, rfl, rfl, by simp, fun _ _ => rfl⟩
theorem zb_size (Y : World) (o o2 : Obj) : ((Y.alloc o).alloc o2).drew.heap.size = Y.heap.size + 1 + 1 := by
  show ((Y.alloc o).alloc o2).heap.size = _
  simp
theorem zb_new (Y : World) (o o2 : Obj) : ((Y.alloc o).alloc o2).drew.heap[Y.heap.size + 1]? = some o2 := by
  show ((Y.alloc o).alloc o2).heap[Y.heap.size + 1]? = some o2
  have h := heap_alloc_new (Y.alloc o) o2
  have e : (Y.alloc o).heap.size = Y.heap.size + 1 := by simp
  rw [e] at h
  exact h
theorem zc_new (Y : World) (o o2 : Obj) : ((Y.alloc o).alloc o2).drew.heap[Y.heap.size]? = some o :=
  (heap_alloc_old (Y.alloc o) o2 (by simp)).trans (heap_alloc_new Y o)

theorem zo2 (Y : World) (o : Obj) (e : TypeId) : ((Y.alloc o).alloc (.cells #[] e)).drew.ownsRow Y.heap.size e 1 (.slice (some ⟨Y.heap.size + 1, 0, none⟩) 0 0) 0 [] := by
  have h := (World.ownsRow_made (base := Y.heap.size) (e := e) (size := 1) (Y.alloc o) #[] 0 (below_alloc Y o).size (Nat.zero_le _) (by simp)).drew
  have e2 : (Y.alloc o).heap.size = Y.heap.size + 1 := by simp
  rw [e2] at h
  exact h

/-- what Append and the two lists come to, for an operation of the law. -/
theorem lasts_append {d : Dk} {k : Nat} {a s : Value} {all sure : List (List UInt8)} {A : Option Addr} {ca : Nat} {S : Option Addr} {cs : Nat} (h : LLists k d a s all sure A ca S cs) (ho : Dk.Ok d) (hk : k ≤ 100) {R : List (List UInt8)} {bad : Bool} (hR : bad = false → R = all ∧ d.now 3 = forms all) {t : List UInt8} (ht : t.length ≤ 200) :
    ∃ (d2 : Dk) (c : Int) (R2 : List (List UInt8)) (b2 : Bool), jappend d 3 R bad t = (d2, c, R2, b2) ∧
      ((c = 7 ∧ R2 = R ∧ b2 = true ∧ JPI d2 3 sure all) ∨
       (c = 0 ∧ R = all ∧ R2 = all ++ [t] ∧ b2 = false ∧ JPI d2 3 sure (all ++ [t]) ∧ d2.now 3 = forms (all ++ [t])) ∨
       (c = 8 ∧ R = all ∧ R2 = R ∧ b2 = true ∧ JPI d2 3 sure (all ++ [t]))) := by
  cases bad with
  | true => exact ⟨d, 7, R, true, rfl, .inl ⟨rfl, rfl, rfl, h.pi⟩⟩
  | false =>
    obtain ⟨rfl, hn⟩ := hR rfl
    have h200 := forms_200 h.a200
    have hl := h.len
    have hfl := form_len t (by omega)
    have hw := h.pi.write ho ok3 hn (s := t) (by omega)
    rcases write_codes (d := d) ok3 (a := (forms R).length) (s := form t) (by omega) with hc | hc
    · exact ⟨_, _, _, _, jappend_ok (by omega) (by omega) hc, .inr (.inl ⟨rfl, rfl, rfl, rfl, hw.1, hw.2 hc⟩)⟩
    · have hnz : (d.write 3 ((forms R).length : Int) (form t)).2 ≠ 0 := by rw [hc]; decide
      exact ⟨_, _, _, _, jappend_err (by omega) (by omega) hnz, .inr (.inr ⟨hc, rfl, rfl, rfl, hw.1⟩)⟩

section
variable {W : World} {r k : Nat} {a s : Value} {w w' : World}
theorem linv_sync {rj : Nat} (h : LInv W r k (.pointer (some ⟨rj, 0, none⟩)) a s w) (hk : k ≤ 100) :
    Calls Tryd.prog 17 #[.pointer (some ⟨rj, 0, none⟩)] w fun e w' =>
      (∃ c, c ≠ 0 ∧ e = .returned (.int .i64 c) ∧ LInv W r (k + 1) (.pointer (some ⟨rj, 0, none⟩)) a s w') ∨
      (e = .returned (.int .i64 0) ∧ ∃ (L : Lay) (d : Dk) (n : Nat) (v : Value) (all : List (List UInt8)) (A : Option Addr) (ca : Nat), a = .slice A all.length ca ∧ all.length ≤ ca ∧ (A = none → ca = 0) ∧ n ≤ 300 * k ∧ JH W r L d n rj v 3 all false w' ∧ TRow (MO r L rj v) w' A all ∧ Dk.Kept d 3 (forms all) ∧ (∀ t ∈ all, t.length ≤ 200) ∧ all.length ≤ k) := by
  obtain ⟨L, d, n, all, sure, A, ca, S, cs, h1, h2, h3⟩ := h
  rcases h3 with ⟨h3, _⟩ | ⟨rj', v, R, bad, a1, a2, a3, a4, a5, a6, a7⟩
  · cases h3
  cases a1
  refine (hJSync a2 (by omega) in3).mono ?_
  rintro e w' ⟨he, L', v', hj, hs⟩
  by_cases hc : (jsync d 3 bad).2.1 = 0
  · right
    rw [hc] at he
    cases bad with
    | true => simp [jsync] at hc
    | false =>
      obtain ⟨rfl, hn⟩ := a7 rfl
      have hc' : (d.sync 3).2 = 0 := hc
      have hk4 := (Dk.sync_ok hc').2.2.2
      rw [hn] at hk4
      have e2 : (jsync d 3 false).2.2 = false := by simp [jsync, hc']
      rw [e2] at hj
      exact ⟨he, L', _, n, v', R, A, ca, h2.ea, h2.hca, h2.na, h1, hj, a3.step hs, hk4, h2.a200, h2.len⟩
  · left
    refine ⟨_, hc, he, L', _, n, all, sure, A, ca, S, cs, by omega, h2.next ?_, .inr ⟨rj, v', R, _, rfl, hj, a3.step hs, a4.step hs, a5, by omega, fun e => ?_⟩⟩
    · cases bad with
      | true => exact h2.pi
      | false => exact h2.pi.sync a2.disk.ok
    · cases bad with
      | true => simp [jsync] at e
      | false =>
        have : (d.sync 3).2 = 0 := by simpa [jsync] using e
        exact absurd this hc
theorem own_nil {w : World} {B e size n : Nat} {A : Option Addr} {m c : Nat} {xs : List Value} (h : w.ownsRow B e size (.slice A m c) n xs) : A = none → c = 0 := fun ha => by
  rcases h.2 with ⟨h1, _⟩ | ⟨g, cap, cur, h1, _⟩
  · cases h1; rfl
  · cases h1; cases ha
theorem hAll2 {L : Lay} {d : Dk} {n rj : Nat} {v : Value} {f : Int} {R : List (List UInt8)} {bad : Bool} (h : JH W r L d n rj v f R bad w) (hR : R.length ≤ 1099511627776) : Calls Tryd.prog 13 #[.pointer (some ⟨rj, 0, none⟩)] w fun e w' =>
    ∃ A cap, e = .returned (.slice A R.length cap) ∧ R.length ≤ cap ∧ (A = none → cap = 0) ∧ TRow (MO r L rj v) w' A R ∧ JH W r L d n rj v f R bad w' ∧ Below w.heap.size w w' :=
  (jall_any h.jrn hR).mono fun e w' ⟨v1, he, ho, hb⟩ => by
    obtain ⟨A, cap, rfl, hA⟩ := TRow.of_own (O := MO r L rj v) ho (fun b hb2 hm => by
      have := (ho.lt b hb2).1
      have := h.lt hm
      omega)
    exact ⟨A, cap, he, own_cap ho, own_nil ho, hA, h.below hb, hb⟩
/-- a writing call of the disk alone leaves the law's own block. -/
theorem LDisk.left2 {d d' : Dk} {ob : Nat} {c : Array Value} (h : LDisk W r k d a s w) (hob : OBox (fun _ => False) ob c w) {res : Value} {F : FuncId} {args : Array Value} (hp : ∀ all sure, JPI d 3 sure all → Dk.Ok d → JPI d' 3 sure all)
    (hm : ∀ L n, Held W r L d n w → n ≤ 300 * k → Calls Tryd.prog F args w (MLeft r L d' n res w)) :
    Calls Tryd.prog F args w fun e w' => e = .returned res ∧ LDisk W r k d' a s w' ∧ OBox (fun _ => False) ob c w' := by
  obtain ⟨L, n, all, sure, A, ca, S, cs, h1, h2, h3, h4, h5⟩ := h
  refine (hm L n h3 h1).mono ?_
  rintro e w' ⟨he, L', hd, hs⟩
  exact ⟨he, ⟨L', n, all, sure, A, ca, S, cs, h1, h2.to (hp _ _ h2.pi h3.at_.ok), h3.step hd hs, h4.step (MStep.of_p hs), h5.step (MStep.of_p hs)⟩,
    (hs.fr.block ob (brow_lt hob.1) (h3.at_.int_free hob.1 (by decide) (by decide) (by decide) (by decide))).trans hob.1, fun h => h⟩
theorem ldisk_lose2 {d : Dk} {ob : Nat} {c : Array Value} (h : LDisk W r k d a s w) {x : Int} (h64 : In64 x) (hob : OBox (fun _ => False) ob c w) : Calls Tryd.prog 11 #[.pointer (some ⟨r, 0, none⟩), .int .i64 x] w fun e w' => e = .returned (.tuple #[]) ∧ LDisk W r k (d.lose x) a s w' ∧ OBox (fun _ => False) ob c w' :=
  h.left2 hob (fun _ _ hp _ => hp.lose x) (fun L n hh hn => mLose hh.at_ h64)
theorem ldisk_arm2 {d : Dk} {ob : Nat} {c : Array Value} (h : LDisk W r k d a s w) {x : Int} (h64 : In64 x) (hob : OBox (fun _ => False) ob c w) : Calls Tryd.prog 12 #[.pointer (some ⟨r, 0, none⟩), .int .i64 x, .slice none 0 0] w fun e w' => e = .returned (.tuple #[]) ∧ LDisk W r k (d.arm x []) a s w' ∧ OBox (fun _ => False) ob c w' :=
  h.left2 hob (fun _ _ hp _ => hp.arm x []) (fun L n hh hn => mArm hh.at_ h64 (v := .slice none 0 0) (keep := []) ((show JRow W none [] from fun h => absurd h (by simp)).krd hh.bel hh.own 0).irow (by simp))
/-- the disk behind the last crash. -/
theorem up_last (d : Dk) (keep : List Int) : Dk.Up (((d.lose 0).arm 0 []).crash keep).start ∧ (((d.lose 0).arm 0 []).crash keep).start.lost = 0 := by
  unfold Dk.crash
  split
  · exact ⟨⟨rfl, rfl⟩, rfl⟩
  · exact ⟨⟨rfl, rfl⟩, rfl⟩
end

theorem sameT_len {O1 O2 : Nat → Prop} (A1 : Option Addr) (c1 : Nat) (A2 : Option Addr) (c2 : Nat) (R : List (List UInt8)) (w : World) (h1 : TRow O1 w A1 R) (h2 : TRow O2 w A2 R) (hl : R.length ≤ 1099511627776)
    {n1 n2 : Nat} (e1 : n1 = R.length) (e2 : n2 = R.length) :
    Calls Tryd.prog 16 #[.slice A1 n1 c1, .slice A2 n2 c2] w fun e w' => e = .returned (.bool true) ∧ Below w.heap.size w w' := by
  subst e1; subst e2
  exact sameT_any A1 c1 A2 c2 R w h1 h2 hl

end Go.Proofs.YtkbffhlkbcdgnaaDoor
