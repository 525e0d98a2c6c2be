/-
  Contracts of the program's layer 6 (8): the two sorts that form calls.
  Contracts of the program's layer 6 (9): what form builds: the sides and the edges of some lists; the sorts of whatever length.
-/
import Derived.Test.YtdnoadngfkiabaaU10
import Derived.Test.YtdnoadngfkiabaaWs
import Derived.Test.YtdnoadngfkiabaaU01
import Derived.Test.YtdnoadngfkiabaaU11
set_option linter.unusedVariables false
set_option maxRecDepth 100000
namespace Go.Proofs.Ytdnoadngfkiabaa
open Go.RowKit Go.Shelf Go.Lib Go.Sort

instance : Inhabited Ed := ⟨⟨0, 0, 0, 0, 0⟩⟩
def encE (e : Ed) : List Value := [.int .i64 e.x0, .int .i64 e.x1, .int .i64 e.y, .int .i64 (e.l : Int), .int .i64 e.s]
def ecells (E : List Ed) : List Value := E.flatMap encE
end Go.Proofs.Ytdnoadngfkiabaa
namespace Go.Proofs.Ytdnoadngfkiabaa
open Go.RowKit

/-- what form has built so far. -/
structure BW (vs ve : Value) (S : List Int) (E : List Ed) (w wr : World) : Prop where
  own1 : wr.ownsRow w.heap.size 3 1 vs S.length (icells S)
  own2 : wr.ownsRow w.heap.size 97 5 ve E.length (ecells E)
  bel : Below w.heap.size w wr
theorem BW.go {vs ve : Value} {S : List Int} {E : List Ed} {w wr w' : World} (h : BW vs ve S E w wr) (hb : Below wr.heap.size wr w') : BW vs ve S E w w' := ⟨own_go h.own1 hb, own_go h.own2 hb, h.bel.trans (hb.mono h.bel.size)⟩
end Go.Proofs.Ytdnoadngfkiabaa
