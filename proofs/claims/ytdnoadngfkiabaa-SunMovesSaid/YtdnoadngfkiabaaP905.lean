/-
  Contracts of the program's layer 6 (5): what column works on: the counts of the lists, and the rectangles so far.
  Plain mathematics of sight (layer 11), 3: forms of cells and of cubes that are moved. No program in this text.
  Contracts of the reference of layer 6 (3): sorted.
  An append to a row of one's own, with where the new row lies: in the old block, or in a new one.
-/
import Derived.Test.YtdnoadngfkiabaaP903
import Derived.Test.YtdnoadngfkiabaaP904
import Derived.Test.YtdnoadngfkiabaaP901
import Derived.BigQuiet
import Derived.ArgAppend
import Derived.Deep.AppendLies
import Derived.Deep.DeepAppendRoom
set_option linter.unusedVariables false
set_option maxRecDepth 100000
namespace Go.Proofs.Ytdnoadngfkiabaa
open Go.RowKit

/-- a list of sides that can be read, in a block below B. -/
def EdRow (w : World) (B : Nat) (A : Option Addr) (E : List Ed) : Prop := 0 < E.length → ∃ b off, A = some ⟨b, off, none⟩ ∧ b < B ∧ b < w.heap.size ∧
  ∀ j (h : j < E.length), w.cell? ⟨b, off + j * 5, none⟩ = some (.int .i64 E[j].x0) ∧ w.cell? ⟨b, off + j * 5 + 1, none⟩ = some (.int .i64 E[j].x1) ∧ w.cell? ⟨b, off + j * 5 + 2, none⟩ = some (.int .i64 E[j].y) ∧ w.cell? ⟨b, off + j * 5 + 3, none⟩ = some (.int .i64 (E[j].l : Int)) ∧ w.cell? ⟨b, off + j * 5 + 4, none⟩ = some (.int .i64 E[j].s)
theorem EdRow.below {w w' : World} {B B' : Nat} {A : Option Addr} {E : List Ed} (h : EdRow w B A E) (hb : Below B' w w') (hB : B ≤ B') : EdRow w' B A E := fun h0 => by
  obtain ⟨b, off, rfl, hB2, hl, hc⟩ := h h0
  have e := fun o => hb.cell (p := ⟨b, o, none⟩) (show b < B' by omega)
  refine ⟨b, off, rfl, hB2, Nat.lt_of_lt_of_le hl hb.size, fun j hj => ?_⟩
  obtain ⟨h0, h1, h2, h3, h4⟩ := hc j hj
  exact ⟨(e _).trans h0, (e _).trans h1, (e _).trans h2, (e _).trans h3, (e _).trans h4⟩
structure CW (nb m cn : Nat) (c : List Int) (v : Value) (l : List Rc) (w wr : World) : Prop where
  n : wr.ownsRow nb 3 1 (.slice (some ⟨nb, 0, none⟩) m cn) m (icells c)
  own : wr.ownsRow w.heap.size 43 4 v l.length (rcells l)
  bel : Below nb w wr
  lt : nb < w.heap.size
section
variable {nb m cn : Nat} {c : List Int} {v : Value} {l : List Rc} {w wr w' : World}
theorem CW.go (h : CW nb m cn c v l w wr) (hb : Below wr.heap.size wr w') : CW nb m cn c v l w w' :=
  ⟨own_go h.n hb, own_go h.own hb, h.bel.trans (hb.mono (Nat.le_of_lt (Nat.lt_of_lt_of_le h.lt h.bel.size))), h.lt⟩
theorem CW.len (h : CW nb m cn c v l w wr) : c.length = m := by have := h.n.1; simpa [icells] using this
theorem CW.cell (h : CW nb m cn c v l w wr) (j : Nat) (hj : j < c.length) : wr.cell? ⟨nb, j, none⟩ = some (.int .i64 c[j]) := by
  have := h.len
  rw [h.n.cellAt j (by omega)]; simp [icells, hj]
theorem CW.irow (h : CW nb m cn c v l w wr) : IRow wr (some ⟨nb, 0, none⟩) c := fun _ =>
  ⟨nb, 0, rfl, (h.n.lt nb rfl).2, fun j hj => by rw [Nat.zero_add]; exact h.cell j hj⟩
theorem CW.setn (h : CW nb m cn c v l w wr) (j : Nat) (x : Int) : CW nb m cn (c.set j x) v l w (wr.setCell ⟨nb, j, none⟩ (.int .i64 x)) := by
  obtain ⟨h1, h2⟩ := h.n.stored j (.int .i64 x)
  refine ⟨?_, own_stays h.own (fun g hg => set_other _ _ _ _ ?_), h.bel.setCell (Nat.le_refl _) _, h.lt⟩
  · rw [show icells (c.set j x) = (icells c).set j (.int .i64 x) by simp [icells, List.map_set]]; exact h1
  · have := (h.own.lt g hg).1; have := h.lt; simp only; omega
theorem CW.grown (h : CW nb m cn c v l w wr) {v' : Value} {l' : List Rc} (ho : w'.ownsRow w.heap.size 43 4 v' l'.length (rcells l')) (hg : wr.grownBy w' v.ownBlock) : CW nb m cn c v' l' w w' := by
  refine ⟨own_stays h.n (fun g hg2 => ?_), ho, Below.grown h.bel hg (Nat.le_of_lt (Nat.lt_of_lt_of_le h.lt h.bel.size)) (fun k hk => ?_), h.lt⟩
  · obtain rfl : nb = g := by simpa [Value.ownBlock] using hg2
    refine hg.block nb (h.n.lt nb rfl).2 (fun e => ?_)
    have := (h.own.lt nb e.symm).1; have := h.lt; omega
  · have := (h.own.lt k hk).1; have := h.lt; omega
theorem CW.setr (h : CW nb m cn c v l w wr) {g cap : Nat} (hv : v = .slice (some ⟨g, 0, none⟩) l.length cap) {j : Nat} {x : Int} {l' : List Rc} (hl : l'.length = l.length) (he : (rcells l).set j (.int .i64 x) = rcells l') : CW nb m cn c v l' w (wr.setCell ⟨g, j, none⟩ (.int .i64 x)) := by
  subst hv
  have hg := (h.own.lt g rfl).1
  have hn := h.lt
  obtain ⟨h1, h2⟩ := h.own.stored j (.int .i64 x)
  refine ⟨own_stays h.n (fun g2 hg2 => set_other _ _ _ _ ?_), ?_, h.bel.setCell (show nb ≤ g by omega) _, h.lt⟩
  · obtain rfl : nb = g2 := by simpa [Value.ownBlock] using hg2
    simp only; omega
  · rw [he] at h1; rw [hl]; exact h1
end
theorem cnt_bound (a b : Int) (k : Nat) {E : List Ed} (h : ∀ e ∈ E, e.s = 1 ∨ e.s = -1) : -(E.length : Int) ≤ sumE (ctE a b k) E ∧ sumE (ctE a b k) E ≤ E.length := by
  induction E with
  | nil => exact ⟨by simp [sumE], by simp [sumE]⟩
  | cons e E ih =>
    have h1 := h e List.mem_cons_self
    obtain ⟨h2, h3⟩ := ih (fun g hg => h g (List.mem_cons_of_mem _ hg))
    show _ ≤ ctE a b k e + sumE (ctE a b k) E ∧ ctE a b k e + sumE (ctE a b k) E ≤ _
    have h4 : -1 ≤ ctE a b k e ∧ ctE a b k e ≤ 1 := by unfold ctE; split <;> omega
    simp only [List.length_cons]
    omega
theorem cnts_next (a b : Int) (m : Nat) (E : List Ed) (k : Nat) (h : k < E.length) : cntsE a b m (E.take (k + 1)) = if E[k].x0 ≤ a ∧ b ≤ E[k].x1 then (cntsE a b m (E.take k)).modify E[k].l (· + E[k].s) else cntsE a b m (E.take k) := by
  rw [List.take_succ_eq_append_getElem h, cntsE_snoc]
theorem modify_set (c : List Int) (j : Nat) (h : j < c.length) (s : Int) : c.modify j (· + s) = c.set j (c[j] + s) := by
  apply List.ext_getElem
  · simp
  · intro i h1 h2
    rw [List.getElem_modify, List.getElem_set]
    by_cases e : j = i
    · subst e; simp
    · simp [e]
end Go.Proofs.Ytdnoadngfkiabaa
namespace Go.Proofs.Ytdnoadngfkiabaa

def mvR (dx dy : Int) (r : Rc) : Rc := ⟨r.X0 + dx, r.Y0 + dy, r.X1 + dx, r.Y1 + dy⟩
theorem mv_hasR {dx dy : Int} {r : Rc} (h : ROk r) (h2 : ROk (mvR dx dy r)) (x y : Int) : HasR (mvR dx dy r) x y ↔ HasR r (x - dx) (y - dy) := by
  unfold HasR
  simp only [h, h2, true_and]
  simp only [mvR]
  omega
/-! ### slabs that are moved -/
/-! ### solids that are moved -/
def mvX (b : V3) (k : Bx) : Bx := ⟨mvR b.x b.y k.r, k.z0 + b.z, k.z1 + b.z⟩
theorem mv_hasB {b : V3} {l : List Bx} (h : ∀ k ∈ l, BOk k) (h2 : ∀ k ∈ l, BOk (mvX b k)) (x y z : Int) : HasB (l.map (mvX b)) (x + b.x) (y + b.y) (z + b.z) ↔ HasB l x y z := by
  constructor
  · rintro ⟨k', hk, k1, k2, k3⟩
    obtain ⟨k, hq, rfl⟩ := List.mem_map.1 hk
    have e := (mv_hasR (h k hq).1 (h2 k hq).1 (x + b.x) (y + b.y)).1 k1
    rw [show x + b.x - b.x = x by omega, show y + b.y - b.y = y by omega] at e
    simp only [mvX] at k2 k3
    exact ⟨k, hq, e, by omega, by omega⟩
  · rintro ⟨k, hk, k1, k2, k3⟩
    refine ⟨mvX b k, List.mem_map.2 ⟨k, hk, rfl⟩, (mv_hasR (h k hk).1 (h2 k hk).1 (x + b.x) (y + b.y)).2 ?_, ?_, ?_⟩
    · rw [show x + b.x - b.x = x by omega, show y + b.y - b.y = y by omega]; exact k1
    · simp only [mvX]; omega
    · simp only [mvX]; omega
end Go.Proofs.Ytdnoadngfkiabaa
namespace Go.Proofs.Ytdnoadngfkiabaa
open Go.RowKit

theorem OwnI.parts {v : Value} {l : List Int} {w wr : World} (h : OwnI v l w wr) :
    ∃ A cap, v = .slice A l.length cap ∧ (0 < l.length → ∃ g, A = some ⟨g, 0, none⟩ ∧ g < wr.heap.size ∧ w.heap.size ≤ g ∧ ∀ j (h : j < l.length), wr.cell? ⟨g, j, none⟩ = some (.int .i64 l[j])) := by
  obtain ⟨A, cap, rfl, hA⟩ := own_parts h.own
  refine ⟨A, cap, rfl, fun h0 => ?_⟩
  obtain ⟨g, rfl, hg, hc⟩ := hA h0
  exact ⟨g, rfl, hg, (h.own.lt g rfl).1, fun j hj => by rw [hc j (by omega)]; simp [icells, hj]⟩
theorem OwnI.below {v : Value} {l : List Int} {w wr w' : World} (h : OwnI v l w wr) (hb : Below wr.heap.size wr w') : OwnI v l w w' := by
  refine ⟨?_, h.bel.trans (hb.mono h.bel.size)⟩
  obtain ⟨h1, h2⟩ := h.own
  refine ⟨h1, ?_⟩
  rcases h2 with ⟨rfl, h3⟩ | ⟨g, cap, cur, rfl, hB, hg, h4⟩
  · exact Or.inl ⟨rfl, h3⟩
  · exact Or.inr ⟨g, cap, cur, rfl, hB, by rw [hb.block g (Array.getElem?_eq_some_iff.1 hg).1]; exact hg, h4⟩
theorem OwnI.set {g n cap : Nat} {l : List Int} {w wr : World} (h : OwnI (.slice (some ⟨g, 0, none⟩) n cap) l w wr) (hn : n = l.length) (j : Nat) (x : Int) :
    OwnI (.slice (some ⟨g, 0, none⟩) n cap) (l.set j x) w (wr.setCell ⟨g, j, none⟩ (.int .i64 x)) := by
  subst hn
  obtain ⟨h1, h2⟩ := h.own.stored j (.int .i64 x)
  refine ⟨?_, ?_⟩
  · have e : (icells l).set j (.int .i64 x) = icells (l.set j x) := by simp [icells, List.map_set]
    rw [e] at h1
    rw [List.length_set]; exact h1
  · exact h.bel.setCell (by have := (h.own.lt g rfl).1; simp; omega) _

end Go.Proofs.Ytdnoadngfkiabaa
namespace Go.Proofs.Ytdnoadngfkiabaa
open Go.RowKit

theorem wpList_append_lies {P : Program} (w : World) {ops : Array Oper} {rest : List Oper} {o : Oper} {a : Act} {Q : Exit → Act → World → Prop} (hgd : o.guard = none) (s x : Operand) (t : TypeId)
    (ho : o.op = Op.call { callee := Callee.builtin Builtin.append, args := #[s, x], argTypes := #[t, t] })
    (base : Nat) (e : TypeId) (i : TypeInfo) (z : Value) (size bytes : Nat) (ht : P.underlying t = some (.slice e)) (hi : P.info? e = some i) (hz : i.zero = some z)
    (hsize : i.size = size) (hby : i.bytes = bytes) (hzs : z.cells.size = size) (hsz : 0 < size)
    (v : Value) (n : Nat) (xs : List Value) (hs : a.eval s = v) (hown : w.ownsRow base e size v n xs)
    (ad : Addr) (m c : Nat) (news : List Value) (hx : a.eval x = .slice (some ad) m c) (hl : news.length = m * size) (hnews : ∀ j u, news[j]? = some u → w.cell? (ad.add j) = some u) (h1 : ∀ u ∈ news, u.oneCell' = true)
    (h63 : n + m ≤ maxLen) (hbytes : (n + m) * bytes ≤ 140737488355328) (hbase : base ≤ w.heap.size)
    (h : ∀ v' w', w'.ownsRow base e size v' (n + m) (xs ++ news) → w.grownBy w' v.ownBlock → (∀ k, v'.ownBlock = some k → v.ownBlock = some k ∨ w.heap.size ≤ k) → wpList P ops Q rest (a.put o.dst v') w') : wpList P ops Q (o :: rest) a w := by
  obtain ⟨hx1, hx2⟩ := id hown
  rcases hx2 with ⟨rfl, hn0⟩ | ⟨g, cap, cur, rfl, hB, hg, hnc, hcm, hcs, htk⟩
  · subst hn0
    have hxs : xs = [] := List.eq_nil_of_length_eq_zero (by rw [hx1]; simp)
    subst hxs
    exact wpList_append_own w hgd s x t ho w.heap.size e i z size bytes ht hi hz hsize hby hzs hsz _ 0 [] hs (World.ownsRow_nil w _ e size) ad m c news hx hl hnews h1 h63 hbytes (Nat.le_refl _) (fun v' w' ho' hg' _ => h v' w' (own_base ho' hbase) hg' (fun k hk => Or.inr (ho'.lt k hk).1))
  · by_cases hr : n + m ≤ cap
    · exact wpList_append_own_spare w hgd s x t ho base e i size ht hi hsize g n cap xs hs hown ad m c news hx hl hnews h1 hr (fun w' ho' hg' => h _ w' ho' hg' (fun k hk => Or.inl hk))
    · refine wpList_append_grows w hgd s x t ho e i z size bytes ht hi hz hsize hby hzs hsz (some ⟨g, 0, none⟩) n cap xs hs (fun hq => by cases hq) hx1 ?_ ad m c news hx hl hnews h1 (by omega) h63 hbytes (fun v' w' ho' hg' => h v' w' (own_base ho' hbase) ⟨hg'.os, hg'.tape, hg'.output, hg'.size, fun k hk _ => hg'.block k hk (by simp)⟩ (fun k hk => Or.inr (ho'.lt k hk).1))
      intro b hb j u hj
      injection hb with hb
      subst hb
      exact World.ownsRow.cells hown rfl j u hj
end Go.Proofs.Ytdnoadngfkiabaa
