/-
  Contracts of the program's layer 6 (11): Of, both, Union, Common, Minus.
  Contracts of the program's layer 6 (12): both, Union, Common, Minus; Area.
-/
import Derived.Test.YtdnoadngfkiabaaU13
import Derived.Test.YtdnoadngfkiabaaU00
set_option linter.unusedVariables false
set_option maxRecDepth 100000
namespace Go.Proofs.Ytdnoadngfkiabaa
open Go.RowKit

/-- a region and an error. -/
def ResIs (x : List Rc × Int) (w : World) (e : Ending) (w' : World) : Prop := ∃ v, e = .returned (.tuple #[v, .int .i64 x.2]) ∧ w'.ownsRow w.heap.size 43 4 v x.1.length (rcells x.1) ∧ Below w.heap.size w w'
def capR (F : List Rc) : List Rc × Int := if F.length ≤ 200 then (F, 0) else ([], 6)
theorem ResIs.parts {x : List Rc × Int} {w : World} {e : Ending} {w' : World} (h : ResIs x w e w') : ∃ A cap, e = .returned (.tuple #[.slice A x.1.length cap, .int .i64 x.2]) ∧ w'.ownsRow w.heap.size 43 4 (.slice A x.1.length cap) x.1.length (rcells x.1) ∧ Below w.heap.size w w' := by
  obtain ⟨v, rfl, h1, h2⟩ := h
  have h1' := h1
  obtain ⟨A, cap, rfl, _⟩ := own_rects h1'
  exact ⟨A, cap, rfl, h1, h2⟩
instance (l : List Rc) : Decidable (∀ r ∈ l, ROk r) := List.decidableBAll (fun r => ROk r) l
def ofR (l : List Rc) : List Rc × Int := if ∀ r ∈ l, ROk r then (if l.length ≤ 400 then capR (formL l) else ([], 6)) else ([], 1)
end Go.Proofs.Ytdnoadngfkiabaa
namespace Go.Proofs.Ytdnoadngfkiabaa
open Go.RowKit

noncomputable instance (l : List Rc) : Decidable (RegP l) := Classical.propDecidable _
noncomputable def opR (op : Bool → Bool → Bool) (a b : List Rc) : List Rc × Int := if RegP a ∧ RegP b then capR (formO op a b) else ([], 1)
theorem gright_yes (A : Option Addr) (cap : Nat) (l : List Rc) (w : World) (h1 : RRow w A l) (hl : l.length ≤ 1099511627776) (hcap : l.length ≤ cap) (hcap2 : cap ≤ 9223372036854775807) (h : RegP l) : Calls Try.prog 43 #[.slice A l.length cap] w (BlIs true w) :=
  (gright_any A cap l w h1 hl hcap hcap2).mono fun e w' ⟨b, hb, h'⟩ => by obtain rfl := hb.2 h; exact h'
theorem gright_no (A : Option Addr) (cap : Nat) (l : List Rc) (w : World) (h1 : RRow w A l) (hl : l.length ≤ 1099511627776) (hcap : l.length ≤ cap) (hcap2 : cap ≤ 9223372036854775807) (h : ¬ RegP l) : Calls Try.prog 43 #[.slice A l.length cap] w (BlIs false w) :=
  (gright_any A cap l w h1 hl hcap hcap2).mono fun e w' ⟨b, hb, h'⟩ => by
    cases b with
    | false => exact h'
    | true => exact absurd (hb.1 rfl) h
/-- a list at a slice, as contracts ask it. -/
structure RIn (w : World) (A : Option Addr) (cap : Nat) (l : List Rc) : Prop where
  row : RRow w A l
  len : l.length ≤ 1099511627776
  room : l.length ≤ cap
  room2 : cap ≤ 9223372036854775807
theorem RIn.below {w w' : World} {A : Option Addr} {cap : Nat} {l : List Rc} (h : RIn w A cap l) (hb : Below w.heap.size w w') : RIn w' A cap l := ⟨h.row.below hb, h.len, h.room, h.room2⟩
end Go.Proofs.Ytdnoadngfkiabaa
