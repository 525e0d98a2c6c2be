/-
  What holds of the journal's file through syncs, crashes and torn writes (mathematics).
-/
import Derived.Test.YtkbffhlkbcdgnaaDoorJh
set_option linter.unusedVariables false
set_option maxRecDepth 100000
namespace Go.Proofs.YtkbffhlkbcdgnaaDoor
open W

theorem forms_pre {sure all : List (List UInt8)} (h : sure <+: all) : (forms sure).length ≤ (forms all).length := by
  obtain ⟨m, rfl⟩ := h
  rw [forms_append, List.length_append]; omega
theorem bt_forms_app (R S : List (List UInt8)) {i : Nat} (h : i < (forms R).length) : bt (forms (R ++ S)) i = bt (forms R) i := by
  rw [forms_append, bt_append, if_pos h]
theorem Torn.whole {sure all : List (List UInt8)} (h : sure <+: all) : Torn sure all (forms all) := ⟨forms_pre h, Nat.le_refl _, fun i _ => .inl rfl⟩
theorem Torn.more {sure all : List (List UInt8)} {C : List UInt8} (h : Torn sure all C) (S : List (List UInt8)) : Torn sure (all ++ S) C :=
  ⟨h.lo, Nat.le_trans h.hi (forms_pre (List.prefix_append _ _)), fun i hi => by
    rw [bt_forms_app all S (Nat.lt_of_lt_of_le hi h.hi)]
    exact h.bt i hi⟩

/-- the file f: what it has, and what is durable, is the list 'all', torn, but whole as far as 'sure' reaches. -/
structure JPI (d : Dk) (f : Int) (sure all : List (List UInt8)) : Prop where
  pre : sure <+: all
  now : Torn sure all (d.now f)
  last : Torn sure all (d.last f)

section
variable {d e : Dk} {f : Int} {sure all : List (List UInt8)}
theorem JPI.of (h : JPI d f sure all) (h1 : e.now f = d.now f) (h2 : e.last f = d.last f) : JPI e f sure all := ⟨h.pre, by rw [h1]; exact h.now, by rw [h2]; exact h.last⟩
theorem JPI.more (h : JPI d f sure all) (S : List (List UInt8)) : JPI d f sure (all ++ S) := ⟨h.pre.trans (List.prefix_append _ _), h.now.more S, h.last.more S⟩
theorem JPI.of_kept {X : List (List UInt8)} (h : Dk.Kept d f (forms X)) : JPI d f X X := ⟨List.prefix_rfl, by rw [h.now]; exact Torn.whole List.prefix_rfl, by rw [h.last]; exact Torn.whole List.prefix_rfl⟩
theorem JPI.crash (h : JPI d f sure all) (ho : Dk.Ok d) (keep : List Int) : JPI (d.crash keep) f sure all := by
  unfold Dk.crash
  split
  · exact h
  · have hs := survs_all (now := d.now) (left keep 0 d.q) (L := d.last) ho.le f
    have ht : Torn sure all (d.crashed keep f) := by
      refine ⟨Nat.le_trans h.last.lo hs.1.1, Nat.le_trans hs.1.2 h.now.hi, fun i hi => ?_⟩
      have hb : bt (d.crashed keep f) i = if (f, i / 64) ∈ left keep 0 d.q then bt (d.now f) i else bt (d.last f) i := hs.2 i
      rw [hb]
      have hi2 : i < (d.now f).length := Nat.lt_of_lt_of_le hi hs.1.2
      split
      · exact h.now.bt i hi2
      · by_cases c : i < (d.last f).length
        · exact h.last.bt i c
        · exact .inr ⟨bt_ge (by omega), by have := h.last.lo; omega⟩
    exact ⟨h.pre, ht, ht⟩
theorem JPI.start (h : JPI d f sure all) : JPI d.start f sure all := h.of rfl rfl
theorem JPI.lose (h : JPI d f sure all) (n : Int) : JPI (d.lose n) f sure all := h.of rfl rfl
theorem JPI.arm (h : JPI d f sure all) (n : Int) (keep : List Int) : JPI (d.arm n keep) f sure all := h.of rfl rfl
theorem JPI.sync (h : JPI d f sure all) (ho : Dk.Ok d) : JPI (d.sync f).1 f sure all := by
  by_cases hc : (d.sync f).2 = 0
  · have hk := (Dk.sync_ok hc).2.2.2
    exact ⟨h.pre, by rw [hk.now]; exact h.now, by rw [hk.last]; exact h.now⟩
  · unfold Dk.sync Dk.counted at hc ⊢
    split
    · exact h
    · rename_i c1
      rw [if_neg c1] at hc
      split
      · exact h.crash ho _
      · rename_i c2
        rw [if_neg c2] at hc
        unfold Dk.sync0 at hc ⊢
        split
        · exact h.of rfl rfl
        · rename_i c3
          rw [if_neg c3] at hc
          split
          · exact h.of rfl rfl
          · rename_i c4
            rw [if_neg c4] at hc
            exact absurd rfl hc
theorem sync_codes (hf : Dk.fileOk f) : (d.sync f).2 = 0 ∨ (d.sync f).2 = 8 ∨ (d.sync f).2 = 9 := by
  unfold Dk.sync Dk.counted
  split
  · exact .inr (.inl rfl)
  split
  · exact .inr (.inl rfl)
  unfold Dk.sync0
  rw [if_neg (Decidable.not_not.mpr hf)]
  split
  · exact .inr (.inr rfl)
  · exact .inl rfl
theorem trunc_codes (hf : Dk.fileOk f) {n : Nat} (hn : n ≤ (d.now f).length) : (d.trunc f (n : Int)).2 = 0 ∨ (d.trunc f (n : Int)).2 = 8 := by
  unfold Dk.trunc Dk.counted
  split
  · exact .inr rfl
  split
  · exact .inr rfl
  unfold Dk.trunc0
  rw [if_neg (Decidable.not_not.mpr hf), if_neg (by omega)]
  exact .inl rfl
theorem trunc_kept (hf : Dk.fileOk f) {n : Nat} (hn : n ≤ (d.now f).length) (h : (d.trunc f (n : Int)).2 = 0) : Dk.Kept (d.trunc f (n : Int)).1 f ((d.now f).take n) := by
  unfold Dk.trunc Dk.counted at h ⊢
  by_cases c1 : d.down = true
  · rw [if_pos c1] at h; exact absurd h (show ¬ ((8 : Int) = 0) by decide)
  rw [if_neg c1] at h ⊢
  by_cases c2 : d.armed = 1
  · rw [if_pos c2] at h; exact absurd h (show ¬ ((8 : Int) = 0) by decide)
  rw [if_neg c2]
  unfold Dk.trunc0
  rw [if_neg (Decidable.not_not.mpr hf), if_neg (by omega)]
  refine ⟨by simp [Dk.settle, upd_same], by simp [Dk.settle, upd_same], fun x hx => ?_⟩
  have := (List.mem_filter.mp hx).2
  simpa using this
theorem JPI.trunc_err (h : JPI d f sure all) (ho : Dk.Ok d) (hf : Dk.fileOk f) {n : Nat} (hn : n ≤ (d.now f).length) (hc : (d.trunc f (n : Int)).2 ≠ 0) : JPI (d.trunc f (n : Int)).1 f sure all := by
  unfold Dk.trunc Dk.counted at hc ⊢
  split
  · exact h
  · rename_i c1
    rw [if_neg c1] at hc
    split
    · exact h.crash ho _
    · rename_i c2
      rw [if_neg c2] at hc
      unfold Dk.trunc0 at hc
      rw [if_neg (Decidable.not_not.mpr hf), if_neg (by omega)] at hc
      exact absurd rfl hc

/-- Open: what it finds, or that it fails. -/
theorem jopen_lasts (h : JPI d f sure all) (ho : Dk.Ok d) (hf : Dk.fileOk f) (hall : ∀ t ∈ all, t.length ≤ 400) :
    ((jopen d f).2.1 = 0 ∧ (jopen d f).2.2 <+: all ∧ sure <+: (jopen d f).2.2 ∧ Dk.Kept (jopen d f).1 f (forms (jopen d f).2.2)) ∨
    (((jopen d f).2.1 = 8 ∨ (jopen d f).2.1 = 9) ∧ JPI (jopen d f).1 f sure all) := by
  rcases sync_codes (d := d) hf with hc | hc
  · have hk := (Dk.sync_ok hc).2.2.2
    have h1 := h.sync ho
    have hbig := (Dk.ok_sync ho f).big f
    have hmI : ((d.sync f).1.now f).length ≤ maxI := by unfold maxI; omega
    have hle := recs_le hmI
    have htk := recs_take hmI
    obtain ⟨p1, p2⟩ := h1.now.recs h1.pre hall hmI
    by_cases c : (forms (recs ((d.sync f).1.now f))).length < ((d.sync f).1.now f).length
    · rcases trunc_codes (d := (d.sync f).1) hf (n := (forms (recs ((d.sync f).1.now f))).length) (by omega) with t | t
      · left
        have hkt := trunc_kept hf (by omega) t
        rw [htk] at hkt
        rw [jopen_short hf hc c t]
        exact ⟨rfl, p1, p2, hkt⟩
      · right
        have hnz : ((d.sync f).1.trunc f ((forms (recs ((d.sync f).1.now f))).length : Int)).2 ≠ 0 := by rw [t]; decide
        rw [jopen_cut hf hc c hnz]
        exact ⟨.inl t, h1.trunc_err (Dk.ok_sync ho f) hf (by omega) hnz⟩
    · left
      rw [jopen_whole hf hc c]
      have : forms (recs ((d.sync f).1.now f)) = (d.sync f).1.now f := by rw [← htk, List.take_of_length_le (by omega)]
      refine ⟨rfl, p1, p2, ?_⟩
      rw [this]
      exact ⟨rfl, by rw [hk.last, hk.now], hk.free⟩
  · right
    have hnz : (d.sync f).2 ≠ 0 := by rcases hc with h | h <;> (rw [h]; decide)
    rw [jopen_lost hf hnz]
    exact ⟨hc, h.sync ho⟩

theorem write_codes (hf : Dk.fileOk f) {a : Nat} {s : List UInt8} (hb : a + s.length ≤ 16777216) : (d.write f (a : Int) s).2 = 0 ∨ (d.write f (a : Int) s).2 = 8 := by
  unfold Dk.write Dk.counted
  split
  · exact .inr rfl
  split
  · exact .inr rfl
  unfold Dk.write0
  rw [if_neg (Decidable.not_not.mpr hf), if_neg (by omega), if_neg (by omega)]
  exact .inl rfl
/-- Append's write: it stands, or the list with the record is torn. -/
theorem JPI.write (h : JPI d f sure all) (ho : Dk.Ok d) (hf : Dk.fileOk f) (hn : d.now f = forms all) {s : List UInt8} (hb : (forms all).length + (form s).length ≤ 16777216) :
    JPI (d.write f ((forms all).length : Int) (form s)).1 f sure (all ++ [s]) ∧ ((d.write f ((forms all).length : Int) (form s)).2 = 0 → (d.write f ((forms all).length : Int) (form s)).1.now f = forms (all ++ [s])) := by
  have hw : d.write0 f ((forms all).length : Int) (form s) = (d.add f (forms all).length (form s), 0) := by
    unfold Dk.write0
    rw [if_neg (Decidable.not_not.mpr hf), if_neg (by omega), if_neg (by omega), Int.toNat_natCast]
  have hne : form s ≠ [] := List.length_pos_iff.mp (form_pos s)
  have hadd : (d.add f (forms all).length (form s)).now f = forms (all ++ [s]) ∧ (d.add f (forms all).length (form s)).last = d.last := by
    unfold Dk.add
    rw [if_neg hne]
    refine ⟨?_, rfl⟩
    simp only [upd_same]
    rw [hn, put_end, forms_snoc]
  have hj : JPI (d.add f (forms all).length (form s)) f sure (all ++ [s]) := ⟨h.pre.trans (List.prefix_append _ _), by rw [hadd.1]; exact Torn.whole (h.pre.trans (List.prefix_append _ _)), by rw [hadd.2]; exact h.last.more [s]⟩
  unfold Dk.write Dk.counted
  rw [hw]
  split
  · exact ⟨h.more [s], fun e => absurd e (show ¬ ((8 : Int) = 0) by decide)⟩
  split
  · exact ⟨hj.crash (Dk.ok_add ho hf hb) _, fun e => absurd e (show ¬ ((8 : Int) = 0) by decide)⟩
  · exact ⟨hj.of rfl rfl, fun _ => hadd.1⟩
end

/-- the last opening: nothing is lost any more, no crash is scheduled. -/
theorem jopen_last {d : Dk} {f : Int} (hf : Dk.fileOk f) (ho : Dk.Ok d) (hu : Dk.Up d) (hl : d.lost = 0) : (jopen d f).2.1 = 0 := (jopen_up hu ho hf hl).1
theorem forms_200 {R : List (List UInt8)} (h : ∀ t ∈ R, t.length ≤ 200) : (forms R).length ≤ 241 * R.length := by
  induction R with
  | nil => simp [forms]
  | cons t R ih =>
    have h1 := h t (by simp)
    have h2 := form_len t (by omega)
    have h3 := ih (fun u hu => h u (by simp [hu]))
    rw [forms_cons, List.length_append, List.length_cons]
    omega
end Go.Proofs.YtkbffhlkbcdgnaaDoor
