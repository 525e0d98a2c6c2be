/-
  Mathematics of the laws of layer 9: what stays small; the boxes of a solid.
-/
import Derived.Test.YteecfgdicckplaaAp
set_option linter.unusedVariables false
set_option maxRecDepth 100000
namespace Go.Proofs.Yteecfgdicckplaa

theorem in_sol {S : List Sl} (h : SForm S) {s : Sl} (hs : s ∈ S) : s.ar = secS S s.z0 := by
  have := (h.each s hs).h.2.1
  exact (sec_at h s hs s.z0 (Int.le_refl _) this).symm
/-- the solid of a few boxes is not too large. -/
theorem solB_small {l : List Bx} (h : ∀ b ∈ l, BOk b) (hl : l.length ≤ 14) : SolP (solB l) := by
  obtain ⟨f1, f2⟩ := solB_is h
  refine ⟨f1, by have := solB_len l; omega, fun s hs => ?_⟩
  rw [in_sol f1 hs, f2]
  unfold secB
  have h1 := form_sq (bases_ok h s.z0)
  have h2 := bases_len l s.z0
  have h3 : (basesB l s.z0).length * (basesB l s.z0).length ≤ 14 * 14 := Nat.mul_le_mul (by omega) (by omega)
  omega
theorem ofS_small {l : List Bx} (h : ∀ b ∈ l, BOk b) (hl : l.length ≤ 14) : ofS l = (solB l, 0) := by
  unfold ofS
  rw [if_pos h, if_pos (by omega)]
  exact (solB_small h hl).cap
theorem ofS_bad {l : List Bx} (h : ¬ ∀ b ∈ l, BOk b) : ofS l = ([], 1) := if_neg h
/-- a combination of the solids of a few boxes is not too large. -/
theorem solO_small {op : Bool → Bool → Bool} (h0 : op false false = false) {a b : List Bx} (ha : ∀ x ∈ a, BOk x) (hb : ∀ x ∈ b, BOk x) (hl : a.length + b.length ≤ 14) : SolP (solO op (solB a) (solB b)) := by
  obtain ⟨a1, a2⟩ := solB_is ha
  obtain ⟨b1, b2⟩ := solB_is hb
  obtain ⟨f1, f2⟩ := solO_is h0 a1 b1
  refine ⟨f1, by have := solO_len op (solB a) (solB b); have := solB_len a; have := solB_len b; omega, fun s hs => ?_⟩
  rw [in_sol f1 hs, f2]
  have e : secO op (solB a) (solB b) s.z0 = formO op (basesB a s.z0) (basesB b s.z0) := by
    unfold secO
    rw [a2, b2]
    unfold secB
    obtain ⟨p1, p2⟩ := formO_is h0 (form_ok (formL_is (bases_ok ha s.z0)).1) (form_ok (formL_is (bases_ok hb s.z0)).1)
    obtain ⟨q1, q2⟩ := formO_is h0 (bases_ok ha s.z0) (bases_ok hb s.z0)
    refine form_eq p1 q1 (fun x y => ?_)
    rw [p2, q2]
    have e1 : hasB (formL (basesB a s.z0)) x y = hasB (basesB a s.z0) x y := by rw [Bool.eq_iff_iff, hasB_iff, hasB_iff, (formL_is (bases_ok ha s.z0)).2]
    have e2 : hasB (formL (basesB b s.z0)) x y = hasB (basesB b s.z0) x y := by rw [Bool.eq_iff_iff, hasB_iff, hasB_iff, (formL_is (bases_ok hb s.z0)).2]
    rw [e1, e2]
  rw [e]
  have h1 := formO_sq op (bases_ok ha s.z0) (bases_ok hb s.z0)
  have h2 := bases_len a s.z0
  have h3 := bases_len b s.z0
  have h4 : ((basesB a s.z0).length + (basesB b s.z0).length) * ((basesB a s.z0).length + (basesB b s.z0).length) ≤ 14 * 14 := Nat.mul_le_mul (by omega) (by omega)
  omega
theorem opS_small {op : Bool → Bool → Bool} (h0 : op false false = false) {a b : List Bx} (ha : ∀ x ∈ a, BOk x) (hb : ∀ x ∈ b, BOk x) (hl : a.length + b.length ≤ 14) : opS op (solB a) (solB b) = (solO op (solB a) (solB b), 0) := by
  rw [opS_cap (solB_small ha (by omega)) (solB_small hb (by omega))]
  exact (solO_small h0 ha hb hl).cap
/-! ### the boxes of a solid -/
theorem boxes_ok {S : List Sl} (h : SForm S) : ∀ b ∈ boxesS S, BOk b := by
  intro b hb
  obtain ⟨s, hs, hb⟩ := List.mem_flatMap.1 hb
  obtain ⟨r, hr, rfl⟩ := List.mem_map.1 hb
  exact ⟨form_ok (h.each s hs).form r hr, (h.each s hs).h⟩
theorem boxes_has {S : List Sl} (h : SForm S) (x y z : Int) : HasB (boxesS S) x y z ↔ HasL (secS S z) x y := by
  constructor
  · rintro ⟨b, hb, hh, h0, h1⟩
    obtain ⟨s, hs, hb⟩ := List.mem_flatMap.1 hb
    obtain ⟨r, hr, rfl⟩ := List.mem_map.1 hb
    rw [sec_at h s hs z h0 h1]
    exact ⟨r, hr, hh⟩
  · intro hh
    have hne : secS S z ≠ [] := by
      intro e; rw [e] at hh; exact no_has x y hh
    obtain ⟨s, hs, h0, h1, e⟩ := sec_mem hne
    rw [← e] at hh
    obtain ⟨r, hr, hh⟩ := hh
    exact ⟨⟨r, s.z0, s.z1⟩, List.mem_flatMap.2 ⟨s, hs, List.mem_map.2 ⟨r, hr, rfl⟩⟩, hh, h0, h1⟩
theorem boxes_sol {S : List Sl} (h : SForm S) : solB (boxesS S) = S :=
  (cs_b (boxes_ok h)).eq (CS.self h) (fun x y z => boxes_has h x y z)
theorem boxes_of {S : List Sl} (h : SolP S) (hl : (boxesS S).length ≤ 200) : ofS (boxesS S) = (S, 0) := by
  unfold ofS
  rw [if_pos (boxes_ok h.form), if_pos hl, boxes_sol h.form]
  exact h.cap
def volB : List Bx → Int
  | [] => 0
  | b :: l => (b.z1 - b.z0) * (b.r.X1 - b.r.X0) * (b.r.Y1 - b.r.Y0) + volB l
theorem volB_append (l m : List Bx) : volB (l ++ m) = volB l + volB m := by
  induction l with
  | nil => simp [volB]
  | cons b l ih => rw [List.cons_append, volB, volB, ih]; omega
theorem volB_next (l : List Bx) (k : Nat) (h : k < l.length) : volB (l.take (k + 1)) = volB (l.take k) + (l[k].z1 - l[k].z0) * (l[k].r.X1 - l[k].r.X0) * (l[k].r.Y1 - l[k].r.Y0) := by
  rw [List.take_succ_eq_append_getElem h, volB_append]; simp [volB]
theorem volB_area (z0 z1 : Int) : ∀ ar : List Rc, (∀ r ∈ ar, ROk r) → volB (ar.map fun r => (⟨r, z0, z1⟩ : Bx)) = areaL ar * (z1 - z0) := by
  intro ar
  induction ar with
  | nil => intro _; simp [volB, areaL]
  | cons r ar ih =>
    intro h
    rw [List.map_cons, volB, ih (fun q hq => h q (List.mem_cons_of_mem _ hq))]
    have e : areaL (r :: ar) = areaR r + areaL ar := rfl
    rw [e, area_ok (h r List.mem_cons_self), Int.add_mul]
    congr 1
    rw [Int.mul_assoc, Int.mul_comm]
theorem boxes_vol {S : List Sl} (h : SForm S) : volB (boxesS S) = volS S := by
  induction S with
  | nil => rfl
  | cons s S ih =>
    rw [show boxesS (s :: S) = boxL s ++ boxesS S from rfl, volB_append, ih h.tail, volS]
    congr 1
    exact volB_area s.z0 s.z1 s.ar (form_ok h.head.form)
theorem box_vol {b : Bx} (h : BOk b) : 0 ≤ (b.z1 - b.z0) * (b.r.X1 - b.r.X0) ∧ (b.z1 - b.z0) * (b.r.X1 - b.r.X0) ≤ 4294967296 ∧ 0 ≤ (b.z1 - b.z0) * (b.r.X1 - b.r.X0) * (b.r.Y1 - b.r.Y0) ∧ (b.z1 - b.z0) * (b.r.X1 - b.r.X0) * (b.r.Y1 - b.r.Y0) ≤ 4503599627370496 := by
  obtain ⟨⟨⟨a0, a1, a2⟩, b0, b1, b2⟩, c0, c1, c2⟩ := h
  have h1 : 0 ≤ (b.z1 - b.z0) * (b.r.X1 - b.r.X0) := Int.mul_nonneg (by omega) (by omega)
  have h2 : (b.z1 - b.z0) * (b.r.X1 - b.r.X0) ≤ 4096 * 1048576 := Int.mul_le_mul (by omega) (by omega) (by omega) (by omega)
  have h3 : 0 ≤ (b.z1 - b.z0) * (b.r.X1 - b.r.X0) * (b.r.Y1 - b.r.Y0) := Int.mul_nonneg h1 (by omega)
  have h4 : (b.z1 - b.z0) * (b.r.X1 - b.r.X0) * (b.r.Y1 - b.r.Y0) ≤ (4096 * 1048576) * 1048576 := Int.mul_le_mul h2 (by omega) (by omega) (by omega)
  exact ⟨h1, by omega, h3, by omega⟩
theorem volB_bd {l : List Bx} (h : ∀ b ∈ l, BOk b) : 0 ≤ volB l ∧ volB l ≤ l.length * 4503599627370496 := by
  induction l with
  | nil => simp [volB]
  | cons b l ih =>
    have h1 := ih (fun x hx => h x (List.mem_cons_of_mem _ hx))
    have h2 := box_vol (h b List.mem_cons_self)
    rw [volB, List.length_cons]
    omega
end Go.Proofs.Yteecfgdicckplaa
