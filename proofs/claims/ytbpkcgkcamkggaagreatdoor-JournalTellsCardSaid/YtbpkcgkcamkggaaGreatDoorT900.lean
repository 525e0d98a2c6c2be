/-
  Plain mathematics of the simulated disk (layer 2): files as functions to lists of bytes, pending sectors, crashes. No program in this text.
-/


namespace Go.Proofs.YtbpkcgkcamkggaaGreatDoor

/-- a byte of a list, or 0 behind its end. -/
def bt (l : List UInt8) (i : Nat) : UInt8 := l.getD i 0

theorem bt_lt {l : List UInt8} {i : Nat} (h : i < l.length) : bt l i = l[i] := by
  simp [bt, List.getD_eq_getElem?_getD, h]
theorem bt_ge {l : List UInt8} {i : Nat} (h : l.length ≤ i) : bt l i = 0 := by
  simp [bt, List.getD_eq_getElem?_getD, List.getElem?_eq_none h]
theorem ext_bt {l m : List UInt8} (hl : l.length = m.length) (h : ∀ i, i < l.length → bt l i = bt m i) : l = m := by
  apply List.ext_getElem hl
  intro i h1 h2
  have := h i h1
  rwa [bt_lt h1, bt_lt h2] at this

theorem bt_append (l m : List UInt8) (i : Nat) : bt (l ++ m) i = if i < l.length then bt l i else bt m (i - l.length) := by
  by_cases h : i < l.length
  · rw [if_pos h]; simp [bt, List.getD_eq_getElem?_getD, List.getElem?_append_left h]
  · rw [if_neg h]; simp [bt, List.getD_eq_getElem?_getD, List.getElem?_append_right (Nat.le_of_not_lt h)]

theorem bt_take (l : List UInt8) (n i : Nat) : bt (l.take n) i = if i < n then bt l i else 0 := by
  by_cases h : i < n
  · rw [if_pos h]; simp [bt, List.getD_eq_getElem?_getD, h]
  · rw [if_neg h]; simp [bt, List.getD_eq_getElem?_getD, List.getElem?_take, h]

theorem bt_drop (l : List UInt8) (n i : Nat) : bt (l.drop n) i = bt l (n + i) := by
  simp [bt, List.getD_eq_getElem?_getD, List.getElem?_drop]

theorem bt_zeros (n i : Nat) : bt (List.replicate n 0) i = 0 := by
  by_cases h : i < n
  · rw [bt_lt (by simpa using h)]; simp
  · exact bt_ge (by simp; omega)

/-- bytes put into a list at an offset. -/
def put (s : List UInt8) (a : Nat) (t : List UInt8) : List UInt8 :=
  if t = [] then s else (s ++ List.replicate (a + t.length - s.length) 0).take a ++ t ++ s.drop (a + t.length)

theorem put_nil (s : List UInt8) (a : Nat) : put s a [] = s := by simp [put]

theorem put_length {s : List UInt8} {a : Nat} {t : List UInt8} (h : t ≠ []) : (put s a t).length = max s.length (a + t.length) := by
  have h2 : 0 < t.length := List.length_pos_iff.mpr h
  rw [put, if_neg h]
  simp only [List.length_append, List.length_take, List.length_replicate, List.length_drop]
  omega

theorem put_le_length (s : List UInt8) (a : Nat) (t : List UInt8) : s.length ≤ (put s a t).length := by
  by_cases h : t = []
  · subst h; rw [put_nil]; exact Nat.le_refl _
  · rw [put_length h]; omega

theorem bt_put (s : List UInt8) (a : Nat) (t : List UInt8) (i : Nat) :
    bt (put s a t) i = if a ≤ i ∧ i < a + t.length then bt t (i - a) else bt s i := by
  by_cases h : t = []
  · subst h
    rw [put_nil, if_neg]
    simp
  · have h2 : 0 < t.length := List.length_pos_iff.mpr h
    have h3 : ((s ++ List.replicate (a + t.length - s.length) 0).take a).length = a := by
      simp only [List.length_append, List.length_take, List.length_replicate]; omega
    rw [put, if_neg h, bt_append, bt_append, List.length_append, h3]
    by_cases c1 : i < a
    · rw [if_pos (by omega), if_pos c1, if_neg (by omega), bt_take, if_pos c1, bt_append]
      by_cases c2 : i < s.length
      · rw [if_pos c2]
      · rw [if_neg c2, bt_zeros, bt_ge (by omega)]
    · by_cases c2 : i < a + t.length
      · rw [if_pos c2, if_neg c1, if_pos ⟨by omega, c2⟩]
      · rw [if_neg c2, if_neg (by omega), bt_drop]
        congr 1; omega

/-- a function, changed at one place. -/
def upd {α : Type} (F : Int → α) (f : Int) (x : α) : Int → α := fun g => if g = f then x else F g
theorem upd_same {α : Type} (F : Int → α) (f : Int) (x : α) : upd F f x f = x := by simp [upd]
theorem upd_other {α : Type} {F : Int → α} {f g : Int} {x : α} (h : g ≠ f) : upd F f x g = F g := by simp [upd, h]
theorem upd_self {α : Type} (F : Int → α) (f : Int) : upd F f (F f) = F := by
  funext g; by_cases h : g = f
  · subst h; rw [upd_same]
  · rw [upd_other h]

/-- the bytes of a sector. -/
def sec (s : List UInt8) (n : Nat) : List UInt8 := (s.drop (64 * n)).take 64
theorem sec_length (s : List UInt8) (n : Nat) : (sec s n).length = min 64 (s.length - 64 * n) := by simp [sec]
theorem bt_sec (s : List UInt8) (n i : Nat) (h : i < 64) : bt (sec s n) i = bt s (64 * n + i) := by
  rw [sec, bt_take, if_pos h, bt_drop]

/-- a sector survives. -/
def surv (now : Int → List UInt8) (L : Int → List UInt8) (x : Int × Nat) : Int → List UInt8 :=
  upd L x.1 (put (L x.1) (64 * x.2) (sec (now x.1) x.2))
def survs (now : Int → List UInt8) (L : Int → List UInt8) (R : List (Int × Nat)) : Int → List UInt8 := R.foldl (surv now) L

theorem surv_length {now L : Int → List UInt8} {x : Int × Nat} (h : ∀ f, (L f).length ≤ (now f).length) (f : Int) :
    (L f).length ≤ (surv now L x f).length ∧ (surv now L x f).length ≤ (now f).length := by
  unfold surv
  by_cases c : f = x.1
  · subst c
    rw [upd_same]
    refine ⟨put_le_length _ _ _, ?_⟩
    by_cases e : sec (now x.1) x.2 = []
    · rw [e, put_nil]; exact h _
    · rw [put_length e, sec_length]
      have := List.length_pos_iff.mpr e
      rw [sec_length] at this
      have := h x.1
      omega
  · rw [upd_other c]; exact ⟨Nat.le_refl _, h f⟩

theorem surv_bt {now L : Int → List UInt8} {x : Int × Nat} (h : ∀ f, (L f).length ≤ (now f).length) (f : Int) (i : Nat) :
    bt (surv now L x f) i = if (f, i / 64) = x then bt (now f) i else bt (L f) i := by
  unfold surv
  by_cases c : f = x.1
  · subst c
    rw [upd_same, bt_put, sec_length]
    by_cases e : (x.1, i / 64) = x
    · rw [if_pos e]
      have e2 : i / 64 = x.2 := by rw [← e]
      by_cases l : i < (now x.1).length
      · rw [if_pos (by omega), bt_sec _ _ _ (by omega)]
        congr 1; omega
      · have h3 := h x.1
        rw [if_neg (by omega), bt_ge (l := L x.1) (by omega), bt_ge (l := now x.1) (by omega)]
    · rw [if_neg e]
      have e2 : i / 64 ≠ x.2 := fun e2 => e (by rw [e2])
      rw [if_neg (by omega)]
  · rw [upd_other c, if_neg]
    intro e; apply c; rw [← e]

theorem survs_all {now : Int → List UInt8} (R : List (Int × Nat)) : ∀ {L : Int → List UInt8} (_ : ∀ f, (L f).length ≤ (now f).length) (f : Int),
    ((L f).length ≤ (survs now L R f).length ∧ (survs now L R f).length ≤ (now f).length)
      ∧ ∀ i, bt (survs now L R f) i = if (f, i / 64) ∈ R then bt (now f) i else bt (L f) i := by
  induction R with
  | nil => intro L h f; exact ⟨⟨Nat.le_refl _, h f⟩, fun i => by simp [survs]⟩
  | cons x R ih =>
    intro L h f
    have h2 : ∀ g, (surv now L x g).length ≤ (now g).length := fun g => (surv_length h g).2
    have k := ih h2 f
    have e : survs now L (x :: R) = survs now (surv now L x) R := rfl
    rw [e]
    refine ⟨⟨Nat.le_trans (surv_length h f).1 k.1.1, k.1.2⟩, fun i => ?_⟩
    rw [k.2 i, surv_bt h]
    by_cases c : (f, i / 64) ∈ R
    · rw [if_pos c, if_pos (List.mem_cons_of_mem _ c)]
    · rw [if_neg c]
      by_cases d : (f, i / 64) = x
      · rw [if_pos d, if_pos (by rw [d]; exact List.mem_cons_self)]
      · rw [if_neg d, if_neg (by simp [c, d])]

/-- the last sector of a file survives: the durable part becomes as long as the file. -/
theorem survs_reach {now : Int → List UInt8} (R : List (Int × Nat)) : ∀ {L : Int → List UInt8} (_ : ∀ f, (L f).length ≤ (now f).length)
    (x : Int × Nat), x ∈ R → 64 * x.2 < (now x.1).length ∧ (now x.1).length ≤ 64 * x.2 + 64 → (now x.1).length ≤ (survs now L R x.1).length := by
  induction R with
  | nil => intro L h x hx; simp at hx
  | cons y R ih =>
    intro L h x hx hn
    have h2 : ∀ g, (surv now L y g).length ≤ (now g).length := fun g => (surv_length h g).2
    have e : survs now L (y :: R) = survs now (surv now L y) R := rfl
    rw [e]
    rcases List.mem_cons.mp hx with hx | hx
    · refine Nat.le_trans ?_ (survs_all R h2 x.1).1.1
      subst hx
      unfold surv
      have hne : sec (now x.1) x.2 ≠ [] := by
        intro c
        have := sec_length (now x.1) x.2
        rw [c] at this
        simp at this; omega
      rw [upd_same, put_length hne, sec_length]; omega
    · exact ih h2 x hx hn

/-- where no sector of a file survives, its durable part is not touched. -/
theorem survs_none {now : Int → List UInt8} (R : List (Int × Nat)) : ∀ (L : Int → List UInt8) (f : Int), (∀ x ∈ R, x.1 ≠ f) → survs now L R f = L f := by
  induction R with
  | nil => intro L f _; rfl
  | cons x R ih =>
    intro L f h
    have e : survs now L (x :: R) = survs now (surv now L x) R := rfl
    rw [e, ih _ f (fun y hy => h y (List.mem_cons_of_mem _ hy)), surv, upd_other]
    exact fun e => h x List.mem_cons_self e.symm

/-- whether the index i survives. -/
def oddAt (keep : List Int) (i : Nat) : Bool := !keep.isEmpty && decide (keep.getD (i % keep.length) 0 % 2 = 1)

theorem oddAt_nil (i : Nat) : oddAt [] i = false := by simp [oddAt]
/-- the sectors that survive, in their order; j is the index of the first one. -/
def left (keep : List Int) : Nat → List (Int × Nat) → List (Int × Nat)
  | _, [] => []
  | j, x :: q => if oddAt keep j then x :: left keep (j + 1) q else left keep (j + 1) q

/-- a sector becomes pending. -/
def addSec (q : List (Int × Nat)) (f : Int) (n : Nat) : List (Int × Nat) := if (f, n) ∈ q then q else q ++ [(f, n)]
/-- c sectors from n on become pending. -/
def addSecs (q : List (Int × Nat)) (f : Int) : Nat → Nat → List (Int × Nat)
  | _, 0 => q
  | n, c + 1 => addSecs (addSec q f n) f (n + 1) c

theorem mem_addSec (q : List (Int × Nat)) (f : Int) (n : Nat) (x : Int × Nat) : x ∈ addSec q f n ↔ x ∈ q ∨ x = (f, n) := by
  unfold addSec
  split
  · rename_i h
    constructor
    · exact Or.inl
    · rintro (h2 | h2)
      · exact h2
      · rw [h2]; exact h
  · simp
theorem mem_addSecs (f : Int) (c : Nat) : ∀ (q : List (Int × Nat)) (n : Nat) (x : Int × Nat),
    x ∈ addSecs q f n c ↔ x ∈ q ∨ (x.1 = f ∧ n ≤ x.2 ∧ x.2 < n + c) := by
  induction c with
  | zero => intro q n x; simp only [addSecs]; constructor; exact Or.inl; rintro (h | h); exact h; omega
  | succ c ih =>
    intro q n x
    rw [addSecs, ih, mem_addSec]
    constructor
    · rintro ((h | h) | h)
      · exact Or.inl h
      · right; rw [h]; exact ⟨rfl, by simp, by simp⟩
      · right; exact ⟨h.1, by omega, by omega⟩
    · rintro (h | h)
      · exact Or.inl (Or.inl h)
      · by_cases e : x.2 = n
        · left; right
          rw [← e, ← h.1]
        · right; exact ⟨h.1, by omega, by omega⟩

/-- the disk. -/
structure Dk where
  now : Int → List UInt8
  last : Int → List UInt8
  q : List (Int × Nat)
  lost : Nat
  down : Bool
  armed : Nat
  keep : List Int

namespace Dk

def new : Dk := ⟨fun _ => [], fun _ => [], [], 0, false, 0, []⟩

def fileOk (f : Int) : Prop := 0 ≤ f ∧ f ≤ 15
instance (f : Int) : Decidable (fileOk f) := inferInstanceAs (Decidable (_ ∧ _))

def add (d : Dk) (f : Int) (a : Nat) (s : List UInt8) : Dk :=
  if s = [] then d
  else { d with now := upd d.now f (put (d.now f) a s), q := addSecs d.q f (a / 64) ((a + s.length - 1) / 64 + 1 - a / 64) }

def settle (d : Dk) (f : Int) (s : List UInt8) : Dk :=
  { d with now := upd d.now f s, last := upd d.last f s, q := d.q.filter (fun x => x.1 ≠ f) }

def crashed (d : Dk) (keep : List Int) : Int → List UInt8 := survs d.now d.last (left keep 0 d.q)

def crash (d : Dk) (keep : List Int) : Dk :=
  if d.down then d else { d with now := d.crashed keep, last := d.crashed keep, q := [], down := true, armed := 0 }

def start (d : Dk) : Dk := { d with down := false }
def lose (d : Dk) (n : Int) : Dk := { d with lost := n.toNat }
def arm (d : Dk) (n : Int) (keep : List Int) : Dk := { d with armed := n.toNat, keep := keep }

def write0 (d : Dk) (f a : Int) (s : List UInt8) : Dk × Int :=
  if ¬ fileOk f then (d, 1) else if a < 0 then (d, 1) else if 16777216 < a + s.length then (d, 6) else (d.add f a.toNat s, 0)
def sync0 (d : Dk) (f : Int) : Dk × Int :=
  if ¬ fileOk f then (d, 1) else if 0 < d.lost then ({ d with lost := d.lost - 1 }, 9) else (d.settle f (d.now f), 0)
def trunc0 (d : Dk) (f n : Int) : Dk × Int :=
  if ¬ fileOk f then (d, 1) else if n < 0 ∨ ((d.now f).length : Int) < n then (d, 1) else (d.settle f ((d.now f).take n.toNat), 0)

/-- a call of Write (w), Sync or Truncate, that has the result p if it is performed. -/
def counted (d : Dk) (w : Bool) (p : Dk × Int) : Dk × Int :=
  if d.down then (d, 8)
  else if d.armed = 1 then ((if w then p.1 else d).crash d.keep, 8)
  else ({ p.1 with armed := d.armed - 1 }, p.2)

def write (d : Dk) (f a : Int) (s : List UInt8) : Dk × Int := d.counted true (d.write0 f a s)
def sync (d : Dk) (f : Int) : Dk × Int := d.counted false (d.sync0 f)
def trunc (d : Dk) (f n : Int) : Dk × Int := d.counted false (d.trunc0 f n)

def read (d : Dk) (f a n : Int) : List UInt8 × Int :=
  if d.down then ([], 8) else if ¬ fileOk f then ([], 1) else if a < 0 ∨ n < 0 then ([], 1)
  else (((d.now f).drop a.toNat).take n.toNat, 0)

def size (d : Dk) (f : Int) : Nat := (d.now f).length

/-- what holds after all calls. -/
structure Ok (d : Dk) : Prop where
  le : ∀ f, (d.last f).length ≤ (d.now f).length
  same : ∀ f i, (f, i / 64) ∉ d.q → bt (d.now f) i = bt (d.last f) i
  ext : ∀ f, (d.last f).length < (d.now f).length → (f, ((d.now f).length - 1) / 64) ∈ d.q
  none : ∀ f, ¬ fileOk f → d.now f = []
  big : ∀ f, (d.now f).length ≤ 16777216
  inq : ∀ x ∈ d.q, fileOk x.1 ∧ 64 * x.2 < (d.now x.1).length
  one : d.q.Nodup

theorem ok_new : Ok new := by
  refine ⟨fun _ => Nat.le_refl _, fun _ _ _ => rfl, fun _ h => ?_, fun _ _ => rfl, fun _ => Nat.zero_le _, fun x h => ?_, List.nodup_nil⟩
  · simp [new] at h
  · simp [new] at h


theorem nodup_addSec {q : List (Int × Nat)} (h : q.Nodup) (f : Int) (n : Nat) : (addSec q f n).Nodup := by
  unfold addSec
  split
  · exact h
  · rename_i c
    rw [List.nodup_append]
    refine ⟨h, by simp, ?_⟩
    intro a ha b hb e
    simp at hb
    rw [e, hb] at ha
    exact c ha
theorem nodup_addSecs (f : Int) (c : Nat) : ∀ (q : List (Int × Nat)) (n : Nat), q.Nodup → (addSecs q f n c).Nodup := by
  induction c with
  | zero => intro q n h; exact h
  | succ c ih => intro q n h; exact ih _ _ (nodup_addSec h f n)

theorem ok_add {d : Dk} (h : Ok d) {f : Int} {a : Nat} {s : List UInt8} (hf : fileOk f) (hb : a + s.length ≤ 16777216) : Ok (d.add f a s) := by
  unfold add
  by_cases e : s = []
  · rw [if_pos e]; exact h
  rw [if_neg e]
  have hs : 0 < s.length := List.length_pos_iff.mpr e
  have hl : (put (d.now f) a s).length = max (d.now f).length (a + s.length) := put_length e
  have hin : ∀ n, a / 64 ≤ n → n ≤ (a + s.length - 1) / 64 → (f, n) ∈ addSecs d.q f (a / 64) ((a + s.length - 1) / 64 + 1 - a / 64) := by
    intro n h1 h2
    rw [mem_addSecs]; right; exact ⟨rfl, h1, by simp only; omega⟩
  have hold : ∀ x, x ∈ d.q → x ∈ addSecs d.q f (a / 64) ((a + s.length - 1) / 64 + 1 - a / 64) := by
    intro x hx; rw [mem_addSecs]; exact Or.inl hx
  refine ⟨?_, ?_, ?_, ?_, ?_, ?_, ?_⟩
  · intro g
    by_cases c : g = f
    · subst c; simp only [upd_same]
      exact Nat.le_trans (h.le g) (put_le_length _ _ _)
    · simp only [upd_other c]; exact h.le g
  · intro g i hi
    have hi2 : (g, i / 64) ∉ d.q := fun x => hi (hold _ x)
    by_cases c : g = f
    · subst c; simp only [upd_same]
      rw [bt_put, if_neg]
      · exact h.same g i hi2
      · intro ⟨h1, h2⟩
        exact hi (hin _ (by omega) (by omega))
    · simp only [upd_other c]; exact h.same g i hi2
  · intro g hg
    by_cases c : g = f
    · subst c; simp only [upd_same] at hg ⊢
      rw [hl] at hg ⊢
      by_cases m : a + s.length ≤ (d.now g).length
      · rw [Nat.max_eq_left m] at hg ⊢
        exact hold _ (h.ext g hg)
      · rw [Nat.max_eq_right (by omega)]
        exact hin _ (by omega) (by omega)
    · simp only [upd_other c] at hg ⊢; exact hold _ (h.ext g hg)
  · intro g hg
    have c : g ≠ f := fun c => hg (c ▸ hf)
    simp only [upd_other c]; exact h.none g hg
  · intro g
    by_cases c : g = f
    · subst c; simp only [upd_same]
      have := h.big g
      rw [hl]; omega
    · simp only [upd_other c]; exact h.big g
  · intro x hx
    rw [mem_addSecs] at hx
    rcases hx with hx | ⟨h1, h2, h3⟩
    · have := h.inq x hx
      refine ⟨this.1, ?_⟩
      by_cases c : x.1 = f
      · simp only [c, upd_same]; rw [c] at this
        exact Nat.lt_of_lt_of_le this.2 (put_le_length _ _ _)
      · simp only [upd_other c]; exact this.2
    · refine ⟨h1 ▸ hf, ?_⟩
      simp only [h1, upd_same]; rw [hl]; omega
  · exact nodup_addSecs _ _ _ _ h.one

theorem ok_settle {d : Dk} (h : Ok d) {f : Int} {s : List UInt8} (hf : fileOk f) (hb : s.length ≤ 16777216) : Ok (d.settle f s) := by
  unfold settle
  have hq : ∀ g n, g ≠ f → ((g, n) ∈ d.q.filter (fun x => x.1 ≠ f) ↔ (g, n) ∈ d.q) := by
    intro g n c; simp [c]
  refine ⟨?_, ?_, ?_, ?_, ?_, ?_, ?_⟩
  · intro g
    by_cases c : g = f
    · subst c; simp only [upd_same]; exact Nat.le_refl _
    · simp only [upd_other c]; exact h.le g
  · intro g i hi
    by_cases c : g = f
    · subst c; simp only [upd_same]
    · simp only [upd_other c]; exact h.same g i (fun x => hi ((hq g _ c).mpr x))
  · intro g hg
    by_cases c : g = f
    · subst c; simp only [upd_same] at hg; omega
    · simp only [upd_other c] at hg ⊢; exact (hq g _ c).mpr (h.ext g hg)
  · intro g hg
    have c : g ≠ f := fun c => hg (c ▸ hf)
    simp only [upd_other c]; exact h.none g hg
  · intro g
    by_cases c : g = f
    · subst c; simp only [upd_same]; exact hb
    · simp only [upd_other c]; exact h.big g
  · intro x hx
    have hx2 := List.mem_filter.mp hx
    have c : x.1 ≠ f := by simpa using hx2.2
    simp only [upd_other c]
    exact h.inq x hx2.1
  · exact List.Pairwise.filter _ h.one

theorem crashed_len {d : Dk} (h : Ok d) (keep : List Int) (f : Int) :
    (d.last f).length ≤ (d.crashed keep f).length ∧ (d.crashed keep f).length ≤ (d.now f).length := (survs_all _ h.le f).1
theorem crashed_none {d : Dk} (h : Ok d) (keep : List Int) (f : Int) (hf : ¬ fileOk f) : d.crashed keep f = [] := by
  have := (crashed_len h keep f).2
  rw [h.none f hf] at this
  simpa using this

theorem ok_crash {d : Dk} (h : Ok d) (keep : List Int) : Ok (d.crash keep) := by
  unfold crash
  split
  · exact h
  · refine ⟨fun _ => Nat.le_refl _, fun _ _ _ => rfl, fun f c => ?_, fun f hf => ?_, fun f => ?_, fun x hx => ?_, List.nodup_nil⟩
    · simp at c
    · exact crashed_none h keep f hf
    · exact Nat.le_trans (crashed_len h keep f).2 (h.big f)
    · simp at hx

theorem ok_of {d e : Dk} (h : Ok d) (h1 : e.now = d.now) (h2 : e.last = d.last) (h3 : e.q = d.q) : Ok e := by
  refine ⟨?_, ?_, ?_, ?_, ?_, ?_, ?_⟩
  · rw [h1, h2]; exact h.le
  · rw [h1, h2, h3]; exact h.same
  · rw [h1, h2, h3]; exact h.ext
  · rw [h1]; exact h.none
  · rw [h1]; exact h.big
  · rw [h1, h3]; exact h.inq
  · rw [h3]; exact h.one

theorem ok_start {d : Dk} (h : Ok d) : Ok d.start := ok_of h rfl rfl rfl
theorem ok_lose {d : Dk} (h : Ok d) (n : Int) : Ok (d.lose n) := ok_of h rfl rfl rfl
theorem ok_arm {d : Dk} (h : Ok d) (n : Int) (keep : List Int) : Ok (d.arm n keep) := ok_of h rfl rfl rfl

theorem ok_write0 {d : Dk} (h : Ok d) (f a : Int) (s : List UInt8) : Ok (d.write0 f a s).1 := by
  unfold write0
  split
  · exact h
  · rename_i hf
    have hf2 : fileOk f := Decidable.not_not.mp hf
    split
    · exact h
    · split
      · exact h
      · exact ok_add h hf2 (by omega)
theorem ok_sync0 {d : Dk} (h : Ok d) (f : Int) : Ok (d.sync0 f).1 := by
  unfold sync0
  split
  · exact h
  · rename_i hf
    have hf2 : fileOk f := Decidable.not_not.mp hf
    split
    · exact ok_of h rfl rfl rfl
    · exact ok_settle h hf2 (h.big f)
theorem ok_trunc0 {d : Dk} (h : Ok d) (f n : Int) : Ok (d.trunc0 f n).1 := by
  unfold trunc0
  split
  · exact h
  · rename_i hf
    have hf2 : fileOk f := Decidable.not_not.mp hf
    split
    · exact h
    · refine ok_settle h hf2 ?_
      have := h.big f
      rw [List.length_take]; omega
theorem ok_counted {d : Dk} (h : Ok d) (w : Bool) {p : Dk × Int} (hp : Ok p.1) : Ok (d.counted w p).1 := by
  unfold counted
  split
  · exact h
  · split
    · apply ok_crash
      split
      · exact hp
      · exact h
    · exact ok_of hp rfl rfl rfl
theorem ok_write {d : Dk} (h : Ok d) (f a : Int) (s : List UInt8) : Ok (d.write f a s).1 := ok_counted h _ (ok_write0 h f a s)
theorem ok_sync {d : Dk} (h : Ok d) (f : Int) : Ok (d.sync f).1 := ok_counted h _ (ok_sync0 h f)
theorem ok_trunc {d : Dk} (h : Ok d) (f n : Int) : Ok (d.trunc f n).1 := ok_counted h _ (ok_trunc0 h f n)

/-- an act: k is its kind, from 0 to 7. -/
def step (d : Dk) (k : Nat) (f n : Int) (s : List UInt8) (keep : List Int) : Dk × Int :=
  if k = 2 then d.sync f else if k = 3 then d.trunc f n else if k = 4 then (d.lose (n % 4), 0)
  else if k = 5 then (d.arm n keep, 0) else if k = 6 then (d.crash keep, 0) else if k = 7 then (d.start, 0) else d.write f n s

/-- a file that is synced, and not touched since. -/
structure Kept (d : Dk) (f : Int) (X : List UInt8) : Prop where
  now : d.now f = X
  last : d.last f = X
  free : ∀ x ∈ d.q, x.1 ≠ f

/-- a Sync that returns OK. -/
theorem sync_ok {d : Dk} {f : Int} (h : (d.sync f).2 = 0) : d.down = false ∧ fileOk f ∧ (d.sync f).1.down = false ∧ Kept (d.sync f).1 f (d.now f) := by
  unfold sync counted at h ⊢
  by_cases c1 : d.down = true
  · rw [if_pos c1] at h; exact absurd h (show ¬ ((8 : Int) = 0) by decide)
  rw [if_neg c1] at h ⊢
  by_cases c2 : d.armed = 1
  · rw [if_pos c2] at h; exact absurd h (show ¬ ((8 : Int) = 0) by decide)
  rw [if_neg c2] at h ⊢
  unfold sync0 at h ⊢
  by_cases c3 : fileOk f
  · rw [if_neg (Decidable.not_not.mpr c3)] at h ⊢
    by_cases c4 : 0 < d.lost
    · rw [if_pos c4] at h; exact absurd h (show ¬ ((9 : Int) = 0) by decide)
    · rw [if_neg c4]
      have c5 : d.down = false := by simpa using c1
      refine ⟨c5, c3, c5, ⟨upd_same _ _ _, upd_same _ _ _, fun x hx => ?_⟩⟩
      have := (List.mem_filter.mp hx).2
      simpa using this
  · rw [if_pos c3] at h; exact absurd h (show ¬ ((1 : Int) = 0) by decide)
theorem counted_down {d : Dk} (h : d.down = true) (w : Bool) (p : Dk × Int) : d.counted w p = (d, 8) := by
  unfold counted; rw [if_pos h]
theorem counted_hit {d : Dk} (h : d.down = false) (ha : d.armed = 1) (w : Bool) (p : Dk × Int) : d.counted w p = ((if w then p.1 else d).crash d.keep, 8) := by
  unfold counted; rw [if_neg (by rw [h]; decide), if_pos ha]
theorem counted_up {d : Dk} (h : d.down = false) (ha : d.armed ≠ 1) (w : Bool) (p : Dk × Int) : d.counted w p = ({ p.1 with armed := d.armed - 1 }, p.2) := by
  unfold counted; rw [if_neg (by rw [h]; decide), if_neg ha]
theorem keep_write0 (d : Dk) (f a : Int) (s : List UInt8) : (d.write0 f a s).1.keep = d.keep := by
  unfold write0 add
  repeat' split
  all_goals rfl
theorem keep_sync0 (d : Dk) (f : Int) : (d.sync0 f).1.keep = d.keep := by
  unfold sync0 settle
  repeat' split
  all_goals rfl
theorem keep_trunc0 (d : Dk) (f n : Int) : (d.trunc0 f n).1.keep = d.keep := by
  unfold trunc0 settle
  repeat' split
  all_goals rfl

theorem read_part {d : Dk} {f : Int} (hf : fileOk f) (hd : d.down = false) {a n : Int} (ha : 0 ≤ a) (hn : 0 ≤ n) :
    d.read f a n = (((d.now f).drop a.toNat).take n.toNat, 0) := by
  unfold read
  rw [if_neg (by rw [hd]; decide), if_neg (Decidable.not_not.mpr hf), if_neg (by omega)]
end Dk


/-- a file of the reference's list: its number, its bytes, its durable bytes. -/
abbrev RFile := Int × ByteArray × ByteArray
def rget (l : List RFile) (f : Int) : RFile := (l.find? (fun x => x.1 == f)).getD (f, ByteArray.empty, ByteArray.empty)
def rset (l : List RFile) (x : RFile) : List RFile := l.filter (fun y => !(y.1 == x.1)) ++ [x]
def rfall (l : List RFile) : List RFile := l.map (fun x => (x.1, x.2.2, x.2.2))

theorem rget_one (l : List RFile) (f : Int) : (rget l f).1 = f := by
  unfold rget
  cases h : l.find? (fun x => x.1 == f) with
  | none => rfl
  | some x => have := List.find?_some h; simpa using this

theorem find_filter (l : List RFile) (f g : Int) (h : g ≠ f) : (l.filter (fun y => !(y.1 == f))).find? (fun x => x.1 == g) = l.find? (fun x => x.1 == g) := by
  induction l with
  | nil => rfl
  | cons y l ih =>
    by_cases c : y.1 = f
    · have c2 : y.1 ≠ g := fun e => h (e.symm.trans c)
      simp [c, ih, h.symm]
    · by_cases c2 : y.1 = g
      · simp [c2, h]
      · simp [c, c2, ih]
theorem find_filter_same (l : List RFile) (f : Int) : (l.filter (fun y => !(y.1 == f))).find? (fun x => x.1 == f) = none := by
  rw [List.find?_eq_none]
  intro x hx
  have := (List.mem_filter.mp hx).2
  simpa using this

theorem rget_set (l : List RFile) (x : RFile) (g : Int) : rget (rset l x) g = if g = x.1 then x else rget l g := by
  unfold rget rset
  rw [List.find?_append]
  by_cases c : g = x.1
  · subst c
    rw [find_filter_same, if_pos rfl]
    simp
  · rw [find_filter l x.1 g c, if_neg c]
    have c2 : (x.1 == g) = false := by simpa using fun e => c e.symm
    simp [c2]

theorem rget_fall (l : List RFile) (g : Int) : rget (rfall l) g = (g, (rget l g).2.2, (rget l g).2.2) := by
  unfold rget rfall
  rw [List.find?_map]
  cases h : l.find? ((fun x => x.1 == g) ∘ fun x => (x.1, x.2.2, x.2.2)) with
  | none =>
    have h2 : l.find? (fun x => x.1 == g) = none := h
    rw [h2]; rfl
  | some x =>
    have h2 : l.find? (fun x => x.1 == g) = some x := h
    rw [h2]
    have := List.find?_some h2
    simp at this
    simp [this]

end Go.Proofs.YtbpkcgkcamkggaaGreatDoor
