/-
  Contracts of the program's layer 9, 4: the closures of Of and both; join.
-/
import Derived.Test.YtkjblmfmaenllaaGreatW3
set_option linter.unusedVariables false
set_option maxRecDepth 100000
namespace Go.Proofs.YtkjblmfmaenllaaGreat
open Go.RowKit

set_option maxHeartbeats 4000000 in
theorem bofC_any (bl : Nat) (A : Option Addr) (cap : Nat) (l : List Bx) (z : Int) (w : World) (hc : w.cell? ⟨bl, 0, none⟩ = some (.slice A l.length cap)) (hbl : bl < w.heap.size) (h : BxRow w A l) (hok : ∀ b ∈ l, BOk b) (hl : l.length ≤ 200) :
    Calls Tryz.prog 52 #[.int .i64 z, .pointer (some ⟨bl, 0, none⟩)] w (ResIs (capR (secB l z)) w) := by
  have HB := Lib.hid (bbases_any A cap l z w h (by omega))
  have hbl2 := bases_len l z
  have EQ : Hid (ofR (basesB l z) = capR (secB l z)) := Lib.hid (by unfold ofR secB; rw [if_pos (bases_ok hok z), if_pos (by omega)])
  have HG := Lib.hid (fun (A' : Option Addr) (c' : Nat) (w' : World) (hr : RRow w' A' (basesB l z)) => gof_any A' c' (basesB l z) w' hr (by omega))
  clear h hok hl hbl2
  go_enter Tryz.func52, Tryz.ntmps52
  go_wp2_with fail
  refine HB.out.mono ?_
  rintro e1 w1 ⟨v1, rfl, ho1, hb1⟩
  obtain ⟨A1, c1, rfl, hr1, _⟩ := own_rects ho1
  have HB1 := Lib.hid hb1
  have HG1 := Lib.hid (HG.out A1 c1 w1 hr1)
  rw [EQ.out] at HG1
  clear ho1 hr1 hb1 HG HB EQ
  generalize (basesB l z).length = nn at *
  go_wp2_with fail
  refine HG1.out.mono ?_
  rintro e w3 hf
  obtain ⟨A3, c3, rfl, h2, h3⟩ := hf.parts
  have HR : Hid (ResIs (capR (secB l z)) w (.returned (.tuple #[.slice A3 (capR (secB l z)).1.length c3, .int .i64 (capR (secB l z)).2])) w3) := Lib.hid ⟨_, rfl, own_base h2 HB1.out.size, HB1.out.trans (h3.mono HB1.out.size)⟩
  clear hf h2 h3 HG1
  generalize (capR (secB l z)).1.length = n2 at *
  generalize (capR (secB l z)).2 = e2 at *
  go_wp2_with fail
  go_ret2
  exact HR.out
/-! ### both's closure -/
def Zx (bo ba bb K : Nat) (A1 : Option Addr) (n1 c1 : Nat) (A2 : Option Addr) (n2 c2 : Nat) (w0 w : World) : Prop := w.cell? ⟨bo, 0, none⟩ = some (.func (.func K) #[] #[]) ∧ w.cell? ⟨ba, 0, none⟩ = some (.slice A1 n1 c1) ∧ w.cell? ⟨bb, 0, none⟩ = some (.slice A2 n2 c2) ∧ bo < w.heap.size ∧ ba < w.heap.size ∧ bb < w.heap.size ∧ Hid (Below w0.heap.size w0 w)
theorem Zx.go {bo ba bb K : Nat} {A1 : Option Addr} {n1 c1 : Nat} {A2 : Option Addr} {n2 c2 : Nat} {w0 w w' : World} (h : Zx bo ba bb K A1 n1 c1 A2 n2 c2 w0 w) (hb : Below w.heap.size w w') : Zx bo ba bb K A1 n1 c1 A2 n2 c2 w0 w' := by
  obtain ⟨h0, h1, h2, h3, h4, h5, h8⟩ := h
  exact ⟨(hb.cell (p := ⟨bo, 0, none⟩) h3).trans h0, (hb.cell (p := ⟨ba, 0, none⟩) h4).trans h1, (hb.cell (p := ⟨bb, 0, none⟩) h5).trans h2, Nat.lt_of_lt_of_le h3 hb.size, Nat.lt_of_lt_of_le h4 hb.size, Nat.lt_of_lt_of_le h5 hb.size, Lib.hid (h8.out.trans (hb.mono h8.out.size))⟩
theorem Zx.drewN {bo ba bb K : Nat} {A1 : Option Addr} {n1 c1 : Nat} {A2 : Option Addr} {n2 c2 : Nat} {w0 w : World} (h : Zx bo ba bb K A1 n1 c1 A2 n2 c2 w0 w) (n : Nat) : Zx bo ba bb K A1 n1 c1 A2 n2 c2 w0 (w.drewN n) := h.go (below_drewN (Below.refl _ _) n)
end Go.Proofs.YtkjblmfmaenllaaGreat
