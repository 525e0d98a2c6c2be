/-
  The contract of the reference's Crash.
-/
import Derived.Test.YtkbffhlkbcdgnaaRv
set_option linter.unusedVariables false
namespace Go.Proofs.Ytkbffhlkbcdgnaa
open Go.RowKit

/-- a store of a number or a mark of the disk. -/
theorem RAt.setS {r B : Nat} {s s' : RSt} {w : World} (h : RAt r B s w) (i : Nat) (u : Value) (e1 : s'.fl = s.fl) (e2 : s'.q = s.q) (e3 : s'.keep = s.keep)
    (hc : ∀ F Q K : Value, (#[F, Q, .int .i64 (s.lost : Int), .bool s.down, .int .i64 (s.armed : Int), K] : Array Value).setIfInBounds i u = #[F, Q, .int .i64 (s'.lost : Int), .bool s'.down, .int .i64 (s'.armed : Int), K]) :
    RAt r B s' (w.setCell ⟨r, i, none⟩ u) := by
  obtain ⟨F, Q, K, h1, h2, h3, h4, h5⟩ := h
  have hne : ∀ {T : TypeId}, T ≠ 54 → ∀ (g : Nat) (c : Array Value) (z : Nat × Nat), w.heap[g]? = some (Obj.cells c T z) → (w.setCell ⟨r, i, none⟩ u).heap[g]? = w.heap[g]? := by
    intro T hT g c z hg
    refine Below.heap_setCell _ _ _ _ (fun e => ?_)
    simp only at e
    subst e
    rw [h1] at hg
    simp only [Option.some.injEq, Obj.cells.injEq] at hg
    exact hT hg.2.1.symm
  refine ⟨F, Q, K, ?_, ?_, ?_, ?_, h5⟩
  · rw [heap_set h1, hc]
  · rw [e1]; exact own_keep h2 (hne (by decide))
  · rw [e2]; exact own_keep h3 (hne (by decide))
  · rw [e3]; exact own_keep h4 (hne (by decide))

/-- a list keep as it may be read, behind the reference's own steps too. -/
def KRow (B : Nat) (w : World) (A : Option Addr) (keep : List Int) : Prop :=
  0 < keep.length → ∃ b off, A = some ⟨b, off, none⟩ ∧ b < w.heap.size ∧ (b < B ∨ NonRef w b) ∧ ∀ j (h : j < keep.length), w.cell? ⟨b, off + j, none⟩ = some (.int .i64 keep[j])
theorem KRow.kept {B : Nat} {w w' : World} {A : Option Addr} {keep : List Int} (h : KRow B w A keep) (hf : RFr B w w') : KRow B w' A keep := fun hn => by
  obtain ⟨b, off, e, hb, hn, hc⟩ := h hn
  have hk := hf.block b hb hn
  refine ⟨b, off, e, Nat.lt_of_lt_of_le hb hf.size, ?_, fun j hj => ?_⟩
  · rcases hn with hn | hn
    · exact .inl hn
    · right; intro c z; rw [hk]; exact hn c z
  · rw [← hc j hj]
    simp only [World.cell?, hk]

/-- the files behind i rounds of a crash. -/
def rAfter (l : List RFile) (keep : List Int) (q : List (Int × Nat)) : Nat → List RFile
  | 0 => l
  | i + 1 => match q[i]? with
    | some x => if oddAt keep i then rset (rAfter l keep q i) (rSurv (rAfter l keep q i) x) else rAfter l keep q i
    | none => rAfter l keep q i
theorem rAfter_next (l : List RFile) (keep : List Int) (q : List (Int × Nat)) (i : Nat) (h : i < q.length) : rAfter l keep q (i + 1) = if oddAt keep i then rset (rAfter l keep q i) (rSurv (rAfter l keep q i) q[i]) else rAfter l keep q i := by
  rw [rAfter]
  simp [h]
theorem rset_len (l : List RFile) (x : RFile) : (rset l x).length ≤ l.length + 1 := by
  unfold rset
  have := List.length_filter_le (fun y => !(y.1 == x.1)) l
  simp; omega
theorem rAfter_len (l : List RFile) (keep : List Int) (q : List (Int × Nat)) : ∀ i, (rAfter l keep q i).length ≤ l.length + i := by
  intro i
  induction i with
  | zero => exact Nat.le_refl _
  | succ i ih =>
    rw [rAfter]
    split
    · split
      · have := rset_len (rAfter l keep q i) (rSurv (rAfter l keep q i) ‹_›); omega
      · omega
    · omega
theorem bsOf_size (l : List UInt8) : (bsOf l).size = l.length := by
  show (bsOf l).data.size = _
  simp [bsOf]
/-- all files are within their bounds. -/
def FBig (l : List RFile) : Prop := ∀ g, (rget l g).2.1.size ≤ 16777216 ∧ (rget l g).2.2.size ≤ 16777216
theorem rSurv_one (l : List RFile) (x : Int × Nat) : (rSurv l x).1 = x.1 := by
  unfold rSurv; split
  · rfl
  · exact rget_one _ _
theorem rAfter_big (l : List RFile) (keep : List Int) (q : List (Int × Nat)) (h : FBig l) : ∀ i, FBig (rAfter l keep q i) := by
  intro i
  induction i with
  | zero => exact h
  | succ i ih =>
    rw [rAfter]
    split
    · rename_i x _
      split
      · intro g
        rw [rget_set, rSurv_one]
        by_cases c : g = x.1
        · rw [if_pos c]
          unfold rSurv
          have h1 := ih x.1
          split
          · rename_i hlt
            refine ⟨h1.1, ?_⟩
            have e1 : (rget (rAfter l keep q i) x.1).2.1.data.toList.length = (rget (rAfter l keep q i) x.1).2.1.size := Array.length_toList
            have e2 : (rget (rAfter l keep q i) x.1).2.2.data.toList.length = (rget (rAfter l keep q i) x.1).2.2.size := Array.length_toList
            simp only [bsOf_size]
            have hne : sec (rget (rAfter l keep q i) x.1).2.1.data.toList x.2 ≠ [] := by
              intro e
              have := sec_length (rget (rAfter l keep q i) x.1).2.1.data.toList x.2
              rw [e, e1] at this
              simp at this; omega
            rw [put_length hne, sec_length, e1, e2]
            omega
          · exact h1
        · rw [if_neg c]; exact ih g
      · exact ih
    · exact ih

/-- the reference's disk behind a crash. -/
def RSt.crashed (s : RSt) (keep : List Int) : RSt :=
  if s.down then s else { fl := rfall (rAfter s.fl keep s.q s.q.length), q := [], lost := s.lost, down := true, armed := 0, keep := s.keep }

end Go.Proofs.Ytkbffhlkbcdgnaa
