/-
  Contracts of the program's layer 9, 4: the closures of Of and both; join.
-/
import Derived.Test.YtkjblmfmaenllaaAf
set_option linter.unusedVariables false
set_option maxRecDepth 100000
namespace Go.Proofs.Ytkjblmfmaenllaa
open Go.RowKit

set_option maxHeartbeats 4000000 in
theorem bofC_any (bl : Nat) (A : Option Addr) (cap : Nat) (l : List Bx) (z : Int) (w : World) (hc : w.cell? ⟨bl, 0, none⟩ = some (.slice A l.length cap)) (hbl : bl < w.heap.size) (h : BxRow w A l) (hok : ∀ b ∈ l, BOk b) (hl : l.length ≤ 200) :
    Calls Try.prog 42 #[.int .i64 z, .pointer (some ⟨bl, 0, none⟩)] w (ResIs (capR (secB l z)) w) := by
  have HB := Lib.hid (bbases_any A cap l z w h (by omega))
  have hbl2 := bases_len l z
  have EQ : Hid (ofR (basesB l z) = capR (secB l z)) := Lib.hid (by unfold ofR secB; rw [if_pos (bases_ok hok z), if_pos (by omega)])
  have HG := Lib.hid (fun (A' : Option Addr) (c' : Nat) (w' : World) (hr : RRow w' A' (basesB l z)) => gof_any A' c' (basesB l z) w' hr (by omega))
  clear h hok hl hbl2
  go_enter Try.func42, Try.ntmps42
  go_wp2_with fail
  refine HB.out.mono ?_
  rintro e1 w1 ⟨v1, rfl, ho1, hb1⟩
  obtain ⟨A1, c1, rfl, hr1, _⟩ := own_rects ho1
  have HB1 := Lib.hid hb1
  have HG1 := Lib.hid (HG.out A1 c1 w1 hr1)
  rw [EQ.out] at HG1
  clear ho1 hr1 hb1 HG HB EQ
  generalize (basesB l z).length = nn at *
  go_wp2_with fail
  refine HG1.out.mono ?_
  rintro e w3 hf
  obtain ⟨A3, c3, rfl, h2, h3⟩ := hf.parts
  have HR : Hid (ResIs (capR (secB l z)) w (.returned (.tuple #[.slice A3 (capR (secB l z)).1.length c3, .int .i64 (capR (secB l z)).2])) w3) := Lib.hid ⟨_, rfl, own_base h2 HB1.out.size, HB1.out.trans (h3.mono HB1.out.size)⟩
  clear hf h2 h3 HG1
  generalize (capR (secB l z)).1.length = n2 at *
  generalize (capR (secB l z)).2 = e2 at *
  go_wp2_with fail
  go_ret2
  exact HR.out
/-! ### both's closure -/
def Zx (bo ba bb K : Nat) (A1 : Option Addr) (n1 c1 : Nat) (A2 : Option Addr) (n2 c2 : Nat) (w0 w : World) : Prop := w.cell? ⟨bo, 0, none⟩ = some (.func (.func K) #[] #[]) ∧ w.cell? ⟨ba, 0, none⟩ = some (.slice A1 n1 c1) ∧ w.cell? ⟨bb, 0, none⟩ = some (.slice A2 n2 c2) ∧ bo < w.heap.size ∧ ba < w.heap.size ∧ bb < w.heap.size ∧ Hid (Below w0.heap.size w0 w)
theorem Zx.go {bo ba bb K : Nat} {A1 : Option Addr} {n1 c1 : Nat} {A2 : Option Addr} {n2 c2 : Nat} {w0 w w' : World} (h : Zx bo ba bb K A1 n1 c1 A2 n2 c2 w0 w) (hb : Below w.heap.size w w') : Zx bo ba bb K A1 n1 c1 A2 n2 c2 w0 w' := by
  obtain ⟨h0, h1, h2, h3, h4, h5, h8⟩ := h
  exact ⟨(hb.cell (p := ⟨bo, 0, none⟩) h3).trans h0, (hb.cell (p := ⟨ba, 0, none⟩) h4).trans h1, (hb.cell (p := ⟨bb, 0, none⟩) h5).trans h2, Nat.lt_of_lt_of_le h3 hb.size, Nat.lt_of_lt_of_le h4 hb.size, Nat.lt_of_lt_of_le h5 hb.size, Lib.hid (h8.out.trans (hb.mono h8.out.size))⟩
theorem Zx.drewN {bo ba bb K : Nat} {A1 : Option Addr} {n1 c1 : Nat} {A2 : Option Addr} {n2 c2 : Nat} {w0 w : World} (h : Zx bo ba bb K A1 n1 c1 A2 n2 c2 w0 w) (n : Nat) : Zx bo ba bb K A1 n1 c1 A2 n2 c2 w0 (w.drewN n) := h.go (below_drewN (Below.refl _ _) n)
/-- a combination of two regions, as the function K gives it. -/
def OpOk (K : Nat) (op : Bool → Bool → Bool) : Prop := ∀ (A1 : Option Addr) (c1 : Nat) (A2 : Option Addr) (c2 : Nat) (a b : List Rc) (w : World), RIn w A1 c1 a → RIn w A2 c2 b → Calls Try.prog K #[.slice A1 a.length c1, .slice A2 b.length c2] w (ResIs (opR op a b) w)
set_option maxHeartbeats 16000000 in
theorem bbothC_any (K : Nat) (eg : ∀ args w, (callFunc K args).run Try.prog w = .ok (.enter K args) w) (op : Bool → Bool → Bool) (hop : OpOk K op) (bo ba bb : Nat) (A1 : Option Addr) (c1 : Nat) (A2 : Option Addr) (c2 : Nat) (a b : List Sl) (z : Int) (w : World)
    (hz : Zx bo ba bb K A1 a.length c1 A2 b.length c2 w w) (ha : SIn w A1 c1 a) (hb : SIn w A2 c2 b) (pa : SolP a) (pb : SolP b) :
    Calls Try.prog 57 #[.int .i64 z, .pointer (some ⟨bo, 0, none⟩), .pointer (some ⟨ba, 0, none⟩), .pointer (some ⟨bb, 0, none⟩)] w (ResIs (capR (secO op a b z)) w) := by
  have E0 := Lib.hid hz
  have HAR : Hid (∀ (S : List Sl) (A : Option Addr) (cap : Nat) (w' : World), ((A = A1 ∧ S = a ∧ cap = c1) ∨ (A = A2 ∧ S = b ∧ cap = c2)) → Zx bo ba bb K A1 a.length c1 A2 b.length c2 w w' → Calls Try.prog 37 #[.slice A S.length cap, .int .i64 z] w' (ArIs (secS S z) w')) := Lib.hid (by
    rintro S A cap w' (⟨rfl, rfl, rfl⟩ | ⟨rfl, rfl, rfl⟩) h
    · exact barea_any _ _ _ z w' (ha.below h.2.2.2.2.2.2.out)
    · exact barea_any _ _ _ z w' (hb.below h.2.2.2.2.2.2.out))
  have EQ : Hid (opR op (secS a z) (secS b z) = capR (secO op a b z)) := Lib.hid (op_cap (sol_reg pa z) (sol_reg pb z))
  have HOP : Hid (∀ (B1 : Option Addr) (d1 : Nat) (B2 : Option Addr) (d2 : Nat) (w' : World), RIn w' B1 d1 (secS a z) → RIn w' B2 d2 (secS b z) → Calls Try.prog K #[.slice B1 (secS a z).length d1, .slice B2 (secS b z).length d2] w' (ResIs (capR (secO op a b z)) w')) := Lib.hid (fun B1 d1 B2 d2 w' h1 h2 => by
    have := hop B1 d1 B2 d2 _ _ w' h1 h2
    rw [EQ.out] at this; exact this)
  have HOP2 : Hid (∀ e w' w'', ResIs (capR (secO op a b z)) w' e w'' → Zx bo ba bb K A1 a.length c1 A2 b.length c2 w w' → ∃ A3 c3, e = .returned (.tuple #[.slice A3 (capR (secO op a b z)).1.length c3, .int .i64 (capR (secO op a b z)).2]) ∧ Hid (ResIs (capR (secO op a b z)) w (.returned (.tuple #[.slice A3 (capR (secO op a b z)).1.length c3, .int .i64 (capR (secO op a b z)).2])) w'') ∧ Below w'.heap.size w' w'') := Lib.hid (fun e w' w'' h hz => by
    obtain ⟨A3, c3, rfl, h2, h3⟩ := h.parts
    have hb := hz.2.2.2.2.2.2.out
    exact ⟨A3, c3, rfl, Lib.hid ⟨_, rfl, own_base h2 hb.size, hb.trans (h3.mono hb.size)⟩, h3⟩)
  clear hz ha hb pa pb EQ hop
  generalize capR (secO op a b z) = R at *
  obtain ⟨nR, hnR⟩ : ∃ nR, nR = R.1.length := ⟨_, rfl⟩
  rw [← hnR] at HOP2
  clear hnR
  obtain ⟨x0, x1, x2, z0, z1, z2, _⟩ := E0.out
  go_enter Try.func57, Try.ntmps57
  go_wp2_with fail
  go_region_held3 (fun w' => w'.cell? ⟨bo, 0, none⟩ = some (.func (.func K) #[] #[]) ∧ w'.cell? ⟨ba, 0, none⟩ = some (.slice A1 a.length c1) ∧ w'.cell? ⟨bb, 0, none⟩ = some (.slice A2 b.length c2) ∧ bo < w'.heap.size ∧ ba < w'.heap.size ∧ bb < w'.heap.size ∧ Hid (Below w.heap.size w w'))
    (first | exact E0.out | exact Zx.drewN E0.out 1 | exact Zx.go ‹_› ‹_› | assumption)
    (first
      | (go_at_call 37; refine (HAR.out _ _ _ _ ?_ ?_).mono ?_; (first | exact Or.inl ⟨rfl, rfl, rfl⟩ | exact Or.inr ⟨rfl, rfl, rfl⟩); (first | assumption | exact Zx.drewN E0.out 1); rintro e w' ⟨A', c', rfl, hr, hb⟩)
      | (go_at_fn K; refine (HOP.out _ _ _ _ _ ?_ ?_).mono ?_; (first | assumption | exact RIn.below ‹_› ‹_›); (first | assumption | exact RIn.below ‹_› ‹_›); intro e w' hres; obtain ⟨A3, c3, rfl, HO3, hb⟩ := HOP2.out _ _ _ hres (by assumption); clear hres)
      | fail)
  go_wp2_with fail
  go_ret2
  exact HO3.out
end Go.Proofs.Ytkjblmfmaenllaa
