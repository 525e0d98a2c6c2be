/-
  Near (layer 13): what the lots near a lot are. No program in this text.
-/
import Derived.Test.YtngddecpfhlilaaGreatC36
import Derived.Test.YtngddecpfhlilaaGreatC27
set_option linter.unusedVariables false
namespace Go.Proofs.YtngddecpfhlilaaGreat
noncomputable def nearS (l : List Lt) (x d : Int) : List Int := sortS (nrL ((findL l x).getD lt0) x d l)
theorem near_asc (l : List Lt) (x d : Int) : Asc (nearS l x d) := (sortS_is _).1
theorem nrB_iff (t : Lt) (x d : Int) (u : Lt) : nrB t x d u = true ↔ (gapM t.ar u.ar).2 = true ∧ (gapM t.ar u.ar).1 ≤ d ∧ u.id ≠ x := by
 unfold nrB
 rw [Bool.and_eq_true, Bool.and_eq_true, decide_eq_true_iff, decide_eq_true_iff, and_assoc]
theorem near_mem (l : List Lt) (x d n : Int) : n ∈ nearS l x d ↔ ∃ u ∈ l, nrB ((findL l x).getD lt0) x d u = true ∧ u.id = n := by
 unfold nearS
 rw [(sortS_is _).2]
 unfold nrL
 rw [List.mem_map]
 constructor
 ·rintro ⟨u, hu, e⟩
  obtain ⟨h1, h2⟩ := List.mem_filter.1 hu
  exact ⟨u, h1, h2, e⟩
 ·rintro ⟨u, h1, h2, e⟩
  exact ⟨u, List.mem_filter.2 ⟨h1, h2⟩, e⟩
theorem gapM_comm (a b : List Rc) : gapM a b = gapM b a := by
 by_cases h : RegP a ∧ RegP b ∧ a ≠ [] ∧ b ≠ []
 ·have h2 : RegP b ∧ RegP a ∧ b ≠ [] ∧ a ≠ [] := ⟨h.2.1, h.1, h.2.2.2, h.2.2.1⟩
  unfold gapM
  rw [if_pos h, if_pos h2, gapL_comm]
 ·rw [gapM_no h, gapM_no (fun h2 => h ⟨h2.2.1, h2.1, h2.2.2.2, h2.2.2.1⟩)]
theorem gapM_nil (b : List Rc) : gapM [] b = (0, false) := gapM_no (fun h => h.2.2.1 rfl)
theorem near_none {l : List Lt} {x d : Int} (h : findL l x = none) : nearS l x d = [] := by
 refine List.eq_nil_iff_forall_not_mem.2 (fun n hn => ?_)
 obtain ⟨u, _, h2, _⟩ := (near_mem l x d n).1 hn
 rw [h] at h2
 have h3 := ((nrB_iff _ _ _ _).1 h2).1
 rw [show ((none : Option Lt).getD lt0).ar = [] from rfl, gapM_nil] at h3
 cases h3
theorem near_has {l : List Lt} {x d : Int} {t u : Lt} (h : findL l x = some t) (hu : u ∈ l) (h1 : (gapM t.ar u.ar).2 = true) (h2 : (gapM t.ar u.ar).1 ≤ d) (h3 : u.id ≠ x) : u.id ∈ nearS l x d := by
 refine (near_mem l x d _).2 ⟨u, hu, ?_, rfl⟩
 rw [h]
 exact (nrB_iff t x d u).2 ⟨h1, h2, h3⟩
theorem near_is {l : List Lt} {x d n : Int} {t : Lt} (h : findL l x = some t) (hn : n ∈ nearS l x d) : n ≠ x ∧ ∃ u ∈ l, u.id = n ∧ (gapM t.ar u.ar).2 = true ∧ (gapM t.ar u.ar).1 ≤ d := by
 obtain ⟨u, hu, h2, e⟩ := (near_mem l x d n).1 hn
 rw [h] at h2
 obtain ⟨a, b, c⟩ := (nrB_iff t x d u).1 h2
 exact ⟨by rw [← e]; exact c, u, hu, e, a, b⟩
theorem near_back {l : List Lt} {x d n : Int} {t : Lt} (hl : LandP l) (h : findL l x = some t) (hn : n ∈ nearS l x d) : x ∈ nearS l n d := by
 obtain ⟨h0, u, hu, e, h1, h2⟩ := near_is h hn
 obtain ⟨ht, hx⟩ := find_mem h
 have hf : findL l n = some u := by rw [← e]; exact find_of hl.asc hu
 rw [gapM_comm] at h1 h2
 have := near_has (d := d) hf ht h1 h2 (by rw [hx]; exact fun c => h0 c.symm)
 rw [hx] at this; exact this
theorem near_more {l : List Lt} {x d n : Int} {t : Lt} (h : findL l x = some t) (hn : n ∈ nearS l x d) : n ∈ nearS l x (d + 1) := by
 obtain ⟨h0, u, hu, e, h1, h2⟩ := near_is h hn
 have := near_has (d := d + 1) h hu h1 (by omega) (by rw [e]; exact h0)
 rw [e] at this; exact this
end Go.Proofs.YtngddecpfhlilaaGreat
