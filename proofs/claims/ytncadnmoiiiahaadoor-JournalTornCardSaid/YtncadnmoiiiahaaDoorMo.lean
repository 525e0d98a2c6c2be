/-
  What the program's Crash does, outside the walk.
-/
import Derived.Test.YtncadnmoiiiahaaDoorMn
set_option linter.unusedVariables false
set_option maxRecDepth 100000
namespace Go.Proofs.YtncadnmoiiiahaaDoor
open Go.RowKit

/-- a list of numbers that can be read, in a block that the disk does not write. -/
def KRd (r : Nat) (L : Lay) (w : World) (v : Value) (l : List Int) : Prop :=
  ∃ A cap, v = .slice A l.length cap ∧ (0 < l.length → ∃ b off, A = some ⟨b, off, none⟩ ∧ b < w.heap.size ∧ ¬ Own r L b ∧ ∀ j (h : j < l.length), w.cell? ⟨b, off + j, none⟩ = some (.int .i64 l[j]))
theorem KRd.step {r : Nat} {L L' : Lay} {w w' : World} {v : Value} {l : List Int} (h : KRd r L w v l) (k : PStep r L L' w w') : KRd r L' w' v l := by
  obtain ⟨A, cap, rfl, h⟩ := h
  refine ⟨A, cap, rfl, fun h0 => ?_⟩
  obtain ⟨b, off, rfl, hb, hn, hc⟩ := h h0
  refine ⟨b, off, rfl, Nat.lt_of_lt_of_le hb k.fr.size, fun ho => ?_, fun j hj => ?_⟩
  · rcases k.own b ho with h1 | h1
    · exact hn h1
    · omega
  · rw [← hc j hj]
    exact World.cell?_of_block (k.fr.block b hb hn)
theorem KRd.irow {r : Nat} {L : Lay} {w : World} {v : Value} {l : List Int} (h : KRd r L w v l) : IRow w v l := by
  obtain ⟨A, cap, rfl, h⟩ := h
  refine ⟨A, cap, rfl, fun h0 => ?_⟩
  obtain ⟨b, off, rfl, hb, _, hc⟩ := h h0
  refine ⟨_, rfl, hb, fun j u hj => ?_⟩
  have hjl : j < l.length := by simpa using (List.getElem?_eq_some_iff.1 hj).1
  rw [Addr.add_lit, hc j hjl, ← hj]
  simp [hjl]
/-- the list of the scheduled crash. -/
theorem PAt.krd {r : Nat} {L : Lay} {d : Dk} {w : World} (h : PAt r L d w) : KRd r L w L.kv d.keep := by
  rcases h.raw.keep.2 with ⟨hv, h0⟩ | ⟨g, cap, cur, hv, _, hg, hnc, hcm, hcs, ht⟩
  · exact ⟨none, 0, by rw [hv, h0], fun h1 => by omega⟩
  · refine ⟨_, cap, hv, fun _ => ⟨g, 0, rfl, brow_lt hg, fun ho => ?_, fun j hj => ?_⟩⟩
    · rcases ho with rfl | rfl | ho | ho
      · rw [h.raw.cell] at hg
        simp only [Option.some.injEq, Obj.cells.injEq] at hg
        exact absurd hg.2.1 (by decide)
      · obtain ⟨es, c, hm⟩ := h.raw.set.isMap
        rw [hm] at hg; cases hg
      · exact other_kind h.queue hg (by decide) ho
      · exact h.raw.files.free hg (by decide) (by decide) ho
    · have h1 := h.raw.keep.cells (g := g) (by rw [hv]; rfl) j (.int .i64 d.keep[j]) (by simp [hj])
      rw [Addr.add_lit] at h1
      exact h1

/-- a crash, as the program performs it. -/
def pcrash (d : Dk) (keep : List Int) : Dk := if d.down then d else { d.crash keep with keep := [] }

theorem left_add (keep : List Int) (x : Int × Nat) : ∀ (l : List (Int × Nat)) (j : Nat), left keep j (l ++ [x]) = left keep j l ++ (if oddAt keep (j + l.length) then [x] else []) := by
  intro l
  induction l with
  | nil =>
    intro j
    simp only [List.nil_append, left, List.length_nil, Nat.add_zero]
  | cons y l ih =>
    intro j
    simp only [List.cons_append, left, ih, List.length_cons]
    rw [show j + 1 + l.length = j + (l.length + 1) by omega]
    split
    · simp
    · rfl
/-- the durable parts when i sectors have been looked at. -/
def fallAt (d : Dk) (keep : List Int) (i : Nat) : Int → List UInt8 := survs d.now d.last (left keep 0 (d.q.take i))
theorem fallAt_next {d : Dk} {keep : List Int} {i : Nat} (h : i < d.q.length) : fallAt d keep (i + 1) = if oddAt keep i then surv d.now (fallAt d keep i) d.q[i] else fallAt d keep i := by
  unfold fallAt
  rw [List.take_succ_eq_append_getElem h, left_add, List.length_take, Nat.min_eq_left (by omega), Nat.zero_add]
  split
  · simp only [survs, List.foldl_append, List.foldl_cons, List.foldl_nil]
  · rw [List.append_nil]
theorem fallAt_all (d : Dk) (keep : List Int) : fallAt d keep d.q.length = d.crashed keep := by
  unfold fallAt Dk.crashed
  rw [List.take_length]
theorem fallAt_le {d : Dk} (h : Dk.Ok d) (keep : List Int) (i : Nat) (f : Int) : (fallAt d keep i f).length ≤ (d.now f).length := (survs_all _ h.le f).1.2

/-- a file's row is written: a step of the files. -/
theorem PRaw.wroteC {r : Nat} {L : Lay} {d : Dk} {S : List (Int × Nat)} {w w1 : World} (h : PRaw r L d S w) {f : Int} (hf : Dk.fileOk f) (s : Bool) {v' : Value}
    (hg : w.grownBy w1 (L.rv f s).ownBlock) (hl : v'.ownBlock = (L.rv f s).ownBlock ∨ ∀ b, v'.ownBlock = some b → w.heap.size ≤ b) (i : Nat) : CStep L (L.setRow f s v') w (w1.setCell ⟨L.fb f, i, none⟩ v') := by
  refine ⟨⟨hg.os, hg.tape, hg.output, by simp [World.setCell]; exact hg.size, fun k hk hn => ?_⟩, ?_, rfl, rfl, rfl, rfl, rfl⟩
  · rw [Below.heap_setCell _ _ _ _ (fun e => hn (.inr (.inr ⟨f, hf, .inl e⟩)))]
    exact hg.block k hk (fun e => hn (.inr (.inr ⟨f, hf, .inr ⟨s, e.symm⟩⟩)))
  · intro b hb
    rcases hb with hb | hb
    · exact .inl (.inl hb)
    · rcases hb with hb | ⟨g, hg', hb | ⟨t, hb⟩⟩
      · exact .inl (.inr (.inl hb))
      · exact .inl (.inr (.inr ⟨g, hg', .inl hb⟩))
      · by_cases c : g = f ∧ t = s
        · rw [show (L.setRow f s v').rv g t = v' by simp [Lay.setRow, c]] at hb
          rcases hl with hl | hl
          · rw [hl] at hb
            exact .inl (.inr (.inr ⟨f, hf, .inr ⟨s, hb⟩⟩))
          · exact .inr (hl b hb)
        · rw [show (L.setRow f s v').rv g t = L.rv g t by simp [Lay.setRow, c]] at hb
          exact .inl (.inr (.inr ⟨g, hg', .inr ⟨t, hb⟩⟩))

/-- the files when those that are left have not fallen yet. -/
def fallen (now X : Int → List UInt8) (lf : Lit → Bool) : Int → List UInt8 := fun f => if lf (.int .i64 f) then now f else X f

/-- the loop over the files under way. -/
def FallAt (r : Nat) (L : Lay) (d : Dk) (X : Int → List UInt8) (D : DataW Unit) (R : Nat) (w wr : World) : Prop :=
  ∃ lf cnt L', wr.ranges Tryd.prog 3 ptrElem L.m R 16 D lf cnt ∧ PRaw r L' { d with now := fallen d.now X lf, last := X } d.q wr ∧ CStep L L' w wr ∧ L'.m = L.m ∧ w.heap.size ≤ R

theorem bounds_in {n : Int} (h : (Lit.int .i64 n).wf = true) : In64 n := by
  have h1 := h
  simp [Lit.wf, IntKind.min, IntKind.max, IntKind.signed, IntKind.bits] at h1
  exact ⟨by omega, by omega⟩

theorem ptrElem_ptr {v : Value} {y : DataW Unit × List MemPlace} (h : ptrElem v = some y) : ∃ p, v = .pointer p := by
  unfold ptrElem at h
  split at h
  · exact ⟨_, rfl⟩
  · exact ⟨_, rfl⟩
  · cases h

theorem FilesAt.congr {w : World} {L : Lay} {now last now' last' : Int → List UInt8} (h : FilesAt w L now last) (h1 : ∀ f, Dk.fileOk f → now' f = now f) (h2 : ∀ f, Dk.fileOk f → last' f = last f) : FilesAt w L now' last' :=
  ⟨h.map, h.file, fun f s hf => by
    have e : side now' last' f s = side now last f s := by cases s <;> simp [side, h1 f hf, h2 f hf]
    rw [e]; exact h.row f s hf, h.inj, h.apart⟩
theorem PRaw.congr {r : Nat} {L : Lay} {d : Dk} {S : List (Int × Nat)} {w : World} (h : PRaw r L d S w) {now' last' : Int → List UInt8} (h1 : ∀ f, Dk.fileOk f → now' f = d.now f) (h2 : ∀ f, Dk.fileOk f → last' f = d.last f) : PRaw r L { d with now := now', last := last' } S w :=
  ⟨h.cell, h.files.congr h1 h2, h.set, h.keep, h.ne⟩

/-- a block that is no row of cells and no map, of the iterator's kind: it is none of the disk's. -/
theorem PRaw.grownIter {r R : Nat} {L : Lay} {d : Dk} {S : List (Int × Nat)} {w w' : World} (h : PRaw r L d S w) (hg : w.grownBy w' (some R)) {m : Option Nat} {a : Nat} {s : Array Nat} {c : Nat} (hR : w.heap[R]? = some (.mapIter m a s c)) : PRaw r L d S w' := by
  refine h.kept fun b hb => hg.block b (h.own_lt hb) (fun e => ?_)
  injection e with e
  subst e
  rcases hb with rfl | rfl | hb | hb
  · rw [h.cell] at hR; cases hR
  · obtain ⟨es, cc, hm⟩ := h.set.isMap
    rw [hm] at hR; cases hR
  · rcases h.files.kind hb with ⟨es, cc, hm⟩ | ⟨cc, hm⟩ | ⟨cc, hm⟩ <;> rw [hm] at hR <;> cases hR
  · obtain ⟨cc, hm⟩ := ownKind h.keep hb
    rw [hm] at hR; cases hR
theorem ranges_iter {H : Type} {w : World} {P : Program} {k : TypeId} {R : Value → Option (DataW H × List MemPlace)} {b r n : Nat} {D : DataW H} {lf : Lit → Bool} {cnt : Nat} (h : w.ranges P k R b r n D lf cnt) : ∃ m a s c, w.heap[r]? = some (.mapIter m a s c) := by
  obtain ⟨es, clock, since, seen, c0, _, _, _, _, hr, _⟩ := h
  exact ⟨_, _, _, _, hr⟩
/-- a step of the iterator. -/
theorem CStep.iter {L L' : Lay} {w wr w' : World} (k : CStep L L' w wr) {R : Nat} (hg : wr.grownBy w' (some R)) (hR : w.heap.size ≤ R) : CStep L L' w w' :=
  ⟨⟨hg.os.trans k.fr.os, hg.tape.trans k.fr.tape, hg.output.trans k.fr.output, Nat.le_trans k.fr.size hg.size, fun b hb hn => (hg.block b (Nat.lt_of_lt_of_le hb k.fr.size) (fun e => by injection e with e; omega)).trans (k.fr.block b hb hn)⟩, k.own, k.qv, k.l, k.fb, k.m, k.kv⟩

/-- the map of the files, as it is read. -/
structure FilesD (D : DataW Unit) (fb : Int → Nat) : Prop where
  has : ∀ f, In64 f → Maps.has D (.int .i64 f) = decide (Dk.fileOk f)
  atKey : ∀ f z, Dk.fileOk f → D.atKey (.int .i64 f) z = .lit (.int .i64 (fb f : Int))

/-- the loop over the files begins. -/
theorem fallAt_start {r : Nat} {L : Lay} {d : Dk} {X : Int → List UInt8} {D : DataW Unit} {w w2 : World} {cnt : Nat} (h : PRaw r L { d with last := X } d.q w) (hD : FilesD D L.fb) (hr : w2.ranges Tryd.prog 3 ptrElem L.m w.heap.size 16 D (Maps.has D) cnt) (hg : w.grownBy w2 none) : FallAt r L d X D w.heap.size w w2 := by
  have hb : Below w.heap.size w w2 := ⟨hg.os, hg.tape, hg.output, hg.size, fun k hk => hg.block k hk (by simp)⟩
  refine ⟨_, _, L, hr, ?_, CStep.of_below hb, rfl, Nat.le_refl _⟩
  refine (h.below hb).congr (fun f hf => ?_) (fun f hf => rfl)
  unfold fallen
  rw [hD.has f (fileOk_64 hf), decide_eq_true hf, if_pos rfl]

/-- a file has come. -/
theorem fallAt_more {D : DataW Unit} {fb : Int → Nat} (hD : FilesD D fb) {x : Int} {p : Option Addr} {kl : Lit} {y : DataW Unit} {ps : List MemPlace} (hkey : keyOf Tryd.prog 3 (.int .i64 x) = some kl) (hv : ptrElem (.pointer p) = some (y, ps)) (hat : ∀ zd, D.atKey kl zd = y) :
    kl = .int .i64 x ∧ Dk.fileOk x ∧ p = some ⟨fb x, 0, none⟩ := by
  obtain ⟨x', e, rfl, hw⟩ := Maps.keyOf_int_inv Tryd.underlying3 hkey
  cases e
  have h64 : In64 x := by
    have h : (Lit.int .i64 x).wf = true := hw
    exact bounds_in h
  have hf : Dk.fileOk x := by
    have h1 := Maps.has_true_of_atKey hat
    rw [hD.has x h64] at h1
    exact of_decide_eq_true h1
  refine ⟨rfl, hf, ?_⟩
  have h2 := hat .nil
  rw [hD.atKey x _ hf] at h2
  subst h2
  have := ptrElem_block hv
  injection this

/-- a file's row is written, the list of pending sectors aside. -/
theorem PRaw.wrote0 {r : Nat} {L : Lay} {d : Dk} {S : List (Int × Nat)} {w w1 : World} (h : PRaw r L d S w) {f : Int} (hf : Dk.fileOk f) (s : Bool) {v' : Value} {X : List UInt8}
    (hown : w1.ownsRow 0 5 1 v' X.length (bcs X)) (hg : w.grownBy w1 (L.rv f s).ownBlock) (hl : v'.ownBlock = (L.rv f s).ownBlock ∨ ∀ b, v'.ownBlock = some b → w.heap.size ≤ b) (i : Nat) (hi : i = if s then 1 else 0) :
    PRaw r (L.setRow f s v') { d with now := setSide d.now f (!s) X, last := setSide d.last f s X } S (w1.setCell ⟨L.fb f, i, none⟩ v') := by
  subst hi
  have hfile := h.files.file f hf
  have hrow := h.files.row f s hf
  have hfb : w1.heap[L.fb f]? = some (.cells #[L.rv f false, L.rv f true] 51 (0, 0)) := (hg.block _ (brow_lt hfile) (fun e => other_kind hrow hfile (by decide) e.symm)).trans hfile
  have hblk : ∀ b, b ≠ L.fb f → (w1.setCell ⟨L.fb f, if s then 1 else 0, none⟩ v').heap[b]? = w1.heap[b]? := fun b hb => Below.heap_setCell _ _ _ _ (fun e => hb e)
  have hother : ∀ b, b < w.heap.size → b ≠ L.fb f → (L.rv f s).ownBlock ≠ some b → (w1.setCell ⟨L.fb f, if s then 1 else 0, none⟩ v').heap[b]? = w.heap[b]? := fun b hb h1 h2 => (hblk b h1).trans (hg.block b hb (fun e => h2 e.symm))
  have kr : r ≠ L.fb f := fun e => h.rfree (.inr ⟨f, hf, .inl e⟩)
  have kr2 : (L.rv f s).ownBlock ≠ some r := fun e => h.rfree (.inr ⟨f, hf, .inr ⟨s, e⟩⟩)
  obtain ⟨es, c, hml⟩ := h.set.isMap
  have kl : L.l ≠ L.fb f := fun e => by rw [e, hfile] at hml; cases hml
  have kl2 : (L.rv f s).ownBlock ≠ some L.l := other_map hrow hml
  refine ⟨(hother r h.lt kr kr2).trans h.cell, ?_, h.set.kept (hother _ h.set.lt kl kl2), ?_, h.ne⟩
  · refine h.files.setRow hf s ?_ ?_ (fun b hb h1 h2 => hother b hb h1 h2) hl
    · exact ownKeep hown fun b hb => hblk b fun e => other_kind hown hfb (by decide) (by rw [← e]; exact hb)
    · rw [heap_set hfb]
      cases s <;> simp [Lay.setRow]
  · refine ownKeep h.keep fun b hb => ?_
    obtain ⟨c2, hc2⟩ := ownKind h.keep hb
    refine hother b (brow_lt hc2) (fun e => ?_) (other_kind hrow hc2 (by decide))
    exact other_kind h.keep hfile (by decide) (by rw [← e]; exact hb)

/-- a file has fallen. -/
theorem fallAt_step {r : Nat} {L1 L2 : Lay} {d : Dk} {X : Int → List UInt8} {D : DataW Unit} {w0 wr w3 w4 : World} {lf : Lit → Bool} {cnt3 : Nat} (p2 : PRaw r L2 { d with now := fallen d.now X lf, last := X } d.q wr) (k2 : CStep L1 L2 w0 wr) (m2 : L2.m = L1.m)
    {x : Int} (hx : Dk.fileOk x) (hrg3 : w3.ranges Tryd.prog 3 ptrElem L1.m w0.heap.size 16 D (fun z => lf z && !z.sameKey (.int .i64 x)) cnt3) (hg3 : wr.grownBy w3 (some w0.heap.size)) (hit : ∃ m a s c, wr.heap[w0.heap.size]? = some (.mapIter m a s c))
    {v' : Value} (hown : w4.ownsRow w3.heap.size 5 1 v' (X x).length (bcs (X x))) (hb : Below w3.heap.size w3 w4) :
    (w4.setCell ⟨L2.fb x, 0, none⟩ v').ranges Tryd.prog 3 ptrElem L1.m w0.heap.size 16 D (fun z => lf z && !z.sameKey (.int .i64 x)) cnt3 ∧ FallAt r L1 d X D w0.heap.size w0 (w4.setCell ⟨L2.fb x, 0, none⟩ v') := by
  obtain ⟨m, a, s, c, hR⟩ := hit
  have p3 := p2.grownIter hg3 hR
  have k3 := k2.iter hg3 (Nat.le_refl _)
  have hg4 : w3.grownBy w4 (L2.rv x false).ownBlock := ⟨hb.os, hb.tape, hb.output, hb.size, fun k hk _ => hb.block k hk⟩
  have hl : v'.ownBlock = (L2.rv x false).ownBlock ∨ ∀ b, v'.ownBlock = some b → w3.heap.size ≤ b := .inr fun b hb' => (hown.lt b hb').1
  have hfile := p3.files.file x hx
  have hfl := brow_lt hfile
  have hmne : L1.m ≠ L2.fb x := fun e => by
    obtain ⟨es, cc, hm⟩ := p3.files.map.isMap
    rw [m2, e, hfile] at hm; cases hm
  have hRne : w0.heap.size ≠ L2.fb x := fun e => by
    obtain ⟨m', a', s', c', h'⟩ := ranges_iter hrg3
    rw [e, hfile] at h'; cases h'
  have hgr5 : w4.grownBy (w4.setCell ⟨L2.fb x, 0, none⟩ v') (some (L2.fb x)) := grownOne _ _ _ _
  have hr4 := (hrg3.kept (row := none) ⟨hb.os, hb.tape, hb.output, hb.size, fun k hk _ => hb.block k hk⟩ (by simp) (by simp)).kept hgr5 (fun e => hmne (by injection e)) (fun e => hRne (by injection e))
  have hw : PRaw r (L2.setRow x false v') { d with now := setSide (fallen d.now X lf) x true (X x), last := setSide X x false (X x) } d.q (w4.setCell ⟨L2.fb x, 0, none⟩ v') :=
    p3.wrote0 hx false (ownBase hown (Nat.zero_le _)) hg4 hl 0 rfl
  refine ⟨hr4, _, _, L2.setRow x false v', hr4, ?_, k3.trans (p3.wroteC hx false hg4 hl 0), m2, Nat.le_refl _⟩
  refine hw.congr (fun f hf => ?_) (fun f hf => rfl)
  show fallen d.now X (fun z => lf z && !z.sameKey (.int .i64 x)) f = upd (fallen d.now X lf) x (X x) f
  unfold fallen
  by_cases c : f = x
  · subst c
    rw [upd_same]
    have e : (Lit.int .i64 f).sameKey (.int .i64 f) = true := WideAt.sameKey_self (lawInt.key (key_int (fileOk_64 hf)))
    simp [e]
  · rw [upd_other c]
    have e : (Lit.int .i64 f).sameKey (.int .i64 x) = false := Maps.sameKey_ne (fun e => c (by injection e))
    simp [e]

/-- the end of a crash. -/
def crashW (r : Nat) (w : World) : World :=
  (((((w.alloc (.map #[] 0)).setCell ⟨r, 1, none⟩ (.slice none 0 0)).setCell ⟨r, 2, none⟩ (.map (some w.heap.size))).setCell ⟨r, 4, none⟩ (.int .i64 0)).setCell ⟨r, 5, none⟩ (.slice none 0 0)).setCell ⟨r, 6, none⟩ (.bool true)
theorem crashW_block (r : Nat) (w : World) {k : Nat} (hk : k < w.heap.size) (hkr : k ≠ r) : (crashW r w).heap[k]? = w.heap[k]? := by
  have ha : Below w.heap.size w (w.alloc (.map #[] 0)) := (Below.refl _ _).alloc (Nat.le_refl _) _
  unfold crashW
  rw [Below.heap_setCell _ _ _ _ hkr, Below.heap_setCell _ _ _ _ hkr, Below.heap_setCell _ _ _ _ hkr, Below.heap_setCell _ _ _ _ hkr, Below.heap_setCell _ _ _ _ hkr]
  exact ha.block k hk
theorem crashW_size (r : Nat) (w : World) : w.heap.size ≤ (crashW r w).heap.size := by simp [crashW, World.setCell]
theorem setCell_os (w : World) (a : Addr) (u : Value) : (w.setCell a u).os = w.os ∧ (w.setCell a u).tape = w.tape ∧ (w.setCell a u).output = w.output := ⟨rfl, rfl, rfl⟩
theorem crashW_os (r : Nat) (w : World) : (crashW r w).os = w.os ∧ (crashW r w).tape = w.tape ∧ (crashW r w).output = w.output := by
  have ha : Below w.heap.size w (w.alloc (.map #[] 0)) := (Below.refl _ _).alloc (Nat.le_refl _) _
  unfold crashW
  refine ⟨?_, ?_, ?_⟩
  · rw [(setCell_os _ _ _).1, (setCell_os _ _ _).1, (setCell_os _ _ _).1, (setCell_os _ _ _).1, (setCell_os _ _ _).1]; exact ha.os
  · rw [(setCell_os _ _ _).2.1, (setCell_os _ _ _).2.1, (setCell_os _ _ _).2.1, (setCell_os _ _ _).2.1, (setCell_os _ _ _).2.1]; exact ha.tape
  · rw [(setCell_os _ _ _).2.2, (setCell_os _ _ _).2.2, (setCell_os _ _ _).2.2, (setCell_os _ _ _).2.2, (setCell_os _ _ _).2.2]; exact ha.output
theorem crashW_raw {r : Nat} {L : Lay} {d : Dk} {S : List (Int × Nat)} {w : World} (h : PRaw r L d S w) : PRaw r { L with qv := .slice none 0 0, l := w.heap.size, kv := .slice none 0 0 } { d with armed := 0, keep := [], down := true } [] (crashW r w) := by
  have ha : Below w.heap.size w (w.alloc (.map #[] 0)) := (Below.refl _ _).alloc (Nat.le_refl _) _
  have h0 := h.below ha
  have hrl := h.lt
  have hml := h.files.map.lt
  have hset0 := LMap.made w
  have nil : ∀ (w : World) (e size : Nat), w.ownsRow 0 e size (.slice none 0 0) 0 [] := fun w e size => World.ownsRow_nil _ _ _ _
  unfold crashW
  generalize w.alloc (.map #[] 0) = w0 at *
  have hset : LMap (w0.setCell ⟨r, 1, none⟩ (.slice none 0 0)) w.heap.size [] := hset0.kept (Below.heap_setCell _ _ _ _ (fun e => by simp only at e; omega))
  have h1 := h0.store (L' := { L with qv := .slice none 0 0 }) (d' := d) 1 (.slice none 0 0) rfl rfl rfl rfl rfl rfl h0.set h0.keep h0.ne
  generalize w0.setCell ⟨r, 1, none⟩ (.slice none 0 0) = w1 at *
  have h2 := h1.store (L' := { L with qv := .slice none 0 0, l := w.heap.size }) (d' := d) (S' := []) 2 (.map (some w.heap.size)) rfl rfl rfl rfl rfl rfl hset h1.keep (fun e => by
    have h6 : L.m = w.heap.size := e
    omega)
  generalize w1.setCell ⟨r, 2, none⟩ (.map (some w.heap.size)) = w2 at *
  have h3 := h2.store (L' := { L with qv := .slice none 0 0, l := w.heap.size }) (d' := { d with armed := 0 }) 4 (.int .i64 0) rfl rfl rfl rfl rfl rfl h2.set h2.keep h2.ne
  generalize w2.setCell ⟨r, 4, none⟩ (.int .i64 0) = w3 at *
  have h4 := h3.store (L' := { L with qv := .slice none 0 0, l := w.heap.size, kv := .slice none 0 0 }) (d' := { d with armed := 0, keep := [] }) 5 (.slice none 0 0) rfl rfl rfl rfl rfl rfl h3.set (nil _ _ _) h3.ne
  generalize w3.setCell ⟨r, 5, none⟩ (.slice none 0 0) = w4 at *
  exact h4.store (L' := { L with qv := .slice none 0 0, l := w.heap.size, kv := .slice none 0 0 }) (d' := { d with armed := 0, keep := [], down := true }) 6 (.bool true) rfl rfl rfl rfl rfl rfl h4.set h4.keep h4.ne
theorem crash_end {r : Nat} {L : Lay} {d : Dk} {S : List (Int × Nat)} {w : World} (h : PRaw r L d S w) : ∃ L', PAt r L' { d with q := [], armed := 0, keep := [], down := true } (crashW r w) ∧ PStep r L L' w (crashW r w) ∧ L'.fb = L.fb := by
  have h5 := crashW_raw h
  have hb := fun k hk hkr => crashW_block r w (k := k) hk hkr
  have hs := crashW_size r w
  obtain ⟨o1, o2, o3⟩ := crashW_os r w
  generalize crashW r w = W at *
  refine ⟨_, ⟨⟨h5.cell, h5.files, h5.set, h5.keep, h5.ne⟩, World.ownsRow_nil _ _ _ _⟩, ⟨⟨o1, o2, o3, hs, fun k hk hn => hb k hk (fun e => hn (.inl e))⟩, fun b hb => ?_, fun b hb => by cases hb⟩, rfl⟩
  rcases hb with hb | hb | hb | hb
  · exact .inl (.inl hb)
  · right
    have h6 : b = w.heap.size := hb
    omega
  · cases hb
  · exact .inl (.inr (.inr (.inr hb)))

end Go.Proofs.YtncadnmoiiiahaaDoor
