/-
  The program's maps in memory: the files by their numbers, and the set of the listed sectors.
  The program's disk in memory: its files, its pending sectors, and what may turn.
  Contracts of the program's small methods: Down, Size, Start, Lose, crashDue.
-/
import Derived.Test.YtbpkcgkcamkggaaGreatDoorT902
import Derived.Maps.RangeWalk
import Derived.Maps.Ext
import Derived.DeepKeys4
set_option linter.unusedVariables false
set_option maxRecDepth 100000
namespace Go.Proofs.YtbpkcgkcamkggaaGreatDoor
open Go.RowKit

theorem laidOutP : laidOutB Tryz.prog = true := by kernel_rfl
theorem rowSec : (80 : TypeId) < Tryz.prog.types.size := of_decide_eq_true (by kernel_rfl)
theorem cellsSec : Tryz.prog.cellsOf 80 = 2 := by kernel_rfl
theorem cellsInt : Tryz.prog.cellsOf 3 = 1 := by kernel_rfl
theorem wideSec : (match Tryz.prog.underlying 80 with | some (.array _ _) | some (.struct _) => true | _ => false) = true := by rw [Tryz.underlying80]
theorem lawSec : Maps.Keyed Tryz.prog 80 := Maps.Keyed.of_law (deep_law_laid laidOutP (m := 2) (by omega) rowSec (by kernel_rfl) wideSec)
theorem lawInt : Maps.Keyed Tryz.prog 3 := Maps.int_keyed Tryz.underlying3
theorem zeroFile (w : World) : (zeroValue 61).run Tryz.prog w = .ok (.pointer none) w := by kernel_rfl
theorem zeroBool (w : World) : (zeroValue 4).run Tryz.prog w = .ok (.bool false) w := by kernel_rfl

/-- a sector as a value, and as a key. -/
def sval (x : Int × Nat) : Value := .agg #[.int .i64 x.1, .int .i64 (x.2 : Int)]
def skey (x : Int × Nat) : Lit := .string (keyBytes [.int .i64 x.1, .int .i64 (x.2 : Int)])
def SecOk (x : Int × Nat) : Prop := In64 x.1 ∧ x.2 ≤ 9223372036854775807

theorem wf_i64 {n : Int} (h : In64 n) : (Lit.int .i64 n).wf = true := WalkArith.wf_i64 (by unfold In64 at h; omega)
theorem key_sec {x : Int × Nat} (h : SecOk x) : keyOf Tryz.prog 80 (sval x) = some (skey x) := by
  have h1 := wf_i64 h.1
  have h2 : (Lit.int .i64 (x.2 : Int)).wf = true := wf_i64 ⟨by omega, by have := h.2; omega⟩
  obtain ⟨d, hd⟩ : ∃ d, Tryz.prog.types.size + 1 = d + 2 := ⟨Tryz.prog.types.size - 1, by have h : (80 : Nat) < Tryz.prog.types.size := rowSec; omega⟩
  have hk : Tryz.prog.keyType 80 = true := by kernel_rfl
  have hf : (sval x).formed Tryz.prog 80 = true := by simp [sval, Value.formed, Tryz.underlying80, cellsSec]
  unfold keyOf
  rw [Tryz.underlying80]
  simp only [hk, hf, hd, Bool.and_self, if_true]
  simp [sval, skey, Value.cells, Program.keyLits, Tryz.underlying80, Tryz.underlying3, cellsSec, cellsInt, h1, h2]
theorem skey_inj {x y : Int × Nat} (hx : SecOk x) (hy : SecOk y) (h : skey x = skey y) : x = y := by
  have h1 := key_sec hx
  rw [h] at h1
  have h2 := lawSec.inj h1 (key_sec hy)
  unfold sval at h2
  simp only [Value.agg.injEq, Array.mk.injEq, List.cons.injEq, Value.int.injEq, true_and, and_true] at h2
  obtain ⟨a, b⟩ := x
  obtain ⟨c, d⟩ := y
  simp only at h2
  rw [h2.1, show b = d by omega]
theorem skey_key {x : Int × Nat} (hx : SecOk x) : WideAt.IsKeyLit (skey x) := lawSec.key (key_sec hx)
theorem key_int {n : Int} (h : In64 n) : keyOf Tryz.prog 3 (.int .i64 n) = some (.int .i64 n) := Maps.keyOf_int_mk Tryz.underlying3 (wf_i64 h)

/-- how a file's pointer reads: as the number of its block. -/
def ptrElem : Value → Option (DataW Unit × List MemPlace)
  | .pointer none => some (.nil, [])
  | .pointer (some ⟨b, 0, none⟩) => some (.lit (.int .i64 (b : Int)), [])
  | _ => none
theorem ptrElem_block {v : Value} {b : Nat} {ps : List MemPlace} (h : ptrElem v = some (.lit (.int .i64 (b : Int)), ps)) : v = .pointer (some ⟨b, 0, none⟩) := by
  unfold ptrElem at h
  split at h
  · simp at h
  · simp only [Option.some.injEq, Prod.mk.injEq, DataW.lit.injEq, Lit.int.injEq, true_and] at h
    obtain ⟨h1, _⟩ := h
    have h2 := Int.ofNat_inj.1 h1
    rw [h2]
  · simp at h
theorem ptrElem_nil {v : Value} {ps : List MemPlace} (h : ptrElem v = some (.nil, ps)) : v = .pointer none := by
  unfold ptrElem at h
  split at h
  · rfl
  · simp at h
  · simp at h

/-- block m is the map of the files: at each file number f a pointer to block fb f. -/
def FMap (w : World) (m : Nat) (fb : Int → Nat) : Prop :=
  ∃ D : DataW Unit, w.ownsMap Tryz.prog 3 ptrElem m 16 D ∧ (∀ f, In64 f → Maps.has D (.int .i64 f) = decide (Dk.fileOk f)) ∧ ∀ f z, Dk.fileOk f → D.atKey (.int .i64 f) z = .lit (.int .i64 (fb f : Int))

theorem fileOk_64 {f : Int} (h : Dk.fileOk f) : In64 f := ⟨by have := h.1; omega, by have := h.2; omega⟩

theorem FMap.look {w : World} {m : Nat} {fb : Int → Nat} (h : FMap w m fb) {f : Int} (hf : Dk.fileOk f) :
    (Instr.lookup 56 (.map (some m)) (.int .i64 f) false).run Tryz.prog w = .ok (.pointer (some ⟨fb f, 0, none⟩)) w := by
  obtain ⟨D, hown, _, hat⟩ := h
  obtain ⟨v, ps, hrun, hv⟩ := hown.lookup lawInt Tryz.underlying56 (zeroFile w) (zd := .nil) (zp := []) rfl (key_int (fileOk_64 hf))
  rw [hat f _ hf] at hv
  rw [hrun, ptrElem_block hv]
theorem FMap.look_ok {w : World} {m : Nat} {fb : Int → Nat} (h : FMap w m fb) {f : Int} (hf : Dk.fileOk f) :
    (Instr.lookup 56 (.map (some m)) (.int .i64 f) true).run Tryz.prog w = .ok (.tuple #[.pointer (some ⟨fb f, 0, none⟩), .bool true]) w := by
  obtain ⟨D, hown, hhas, hat⟩ := h
  obtain ⟨v, ps, hrun, hv⟩ := hown.look_ok lawInt Tryz.underlying56 (zeroFile w) (zd := .nil) (zp := []) rfl (key_int (fileOk_64 hf))
  rw [hat f _ hf] at hv
  rw [hrun, ptrElem_block hv, hhas f (fileOk_64 hf), decide_eq_true hf]
theorem FMap.look_no {w : World} {m : Nat} {fb : Int → Nat} (h : FMap w m fb) {f : Int} (h64 : In64 f) (hf : ¬ Dk.fileOk f) :
    (Instr.lookup 56 (.map (some m)) (.int .i64 f) true).run Tryz.prog w = .ok (.tuple #[.pointer none, .bool false]) w := by
  obtain ⟨D, hown, hhas, hat⟩ := h
  obtain ⟨v, ps, hrun, hv⟩ := hown.look_ok lawInt Tryz.underlying56 (zeroFile w) (zd := .nil) (zp := []) rfl (key_int h64)
  have hn : Maps.has D (.int .i64 f) = false := by rw [hhas f h64]; exact decide_eq_false hf
  rw [Maps.atKey_of_not_has hn] at hv
  rw [hrun, ptrElem_nil hv, hn]
theorem FMap.lt {w : World} {m : Nat} {fb : Int → Nat} (h : FMap w m fb) : m < w.heap.size := by obtain ⟨D, hown, _⟩ := h; exact hown.lt
theorem FMap.kept {w w' : World} {m : Nat} {fb : Int → Nat} (h : FMap w m fb) (hb : w'.heap[m]? = w.heap[m]?) : FMap w' m fb := by
  obtain ⟨D, ⟨es, clock, h1, h2⟩, h3⟩ := h
  exact ⟨D, ⟨es, clock, hb.trans h1, h2⟩, h3⟩
theorem FMap.isMap {w : World} {m : Nat} {fb : Int → Nat} (h : FMap w m fb) : ∃ es clock, w.heap[m]? = some (.map es clock) := by
  obtain ⟨D, ⟨es, clock, h1, _⟩, _⟩ := h
  exact ⟨es, clock, h1⟩

/-- block l is the set of the sectors S. -/
def LMap (w : World) (l : Nat) (S : List (Int × Nat)) : Prop :=
  ∃ D : DataW Unit, w.ownsMap Tryz.prog 80 (plainElem Tryz.prog 4) l S.length D ∧ Maps.size D = S.length ∧ S.Nodup ∧ (∀ x ∈ S, SecOk x)
    ∧ ∀ x, SecOk x → Maps.has D (skey x) = decide (x ∈ S) ∧ (x ∈ S → ∀ z, D.atKey (skey x) z = .lit (.bool true))

theorem own_size {H : Type} {w : World} {P : Program} {k : TypeId} {R : Value → Option (DataW H × List MemPlace)} {b n : Nat} {D : DataW H} (h : w.ownsMap P k R b n D) : w.ownsMap P k R b (Maps.size D) D := by
  obtain ⟨es, clock, h1, h2, h3, h4⟩ := h
  refine ⟨es, clock, h1, h2, ?_, h4⟩
  rw [h4]; simp [Maps.size, length_sorted]

theorem LMap.lt {w : World} {l : Nat} {S : List (Int × Nat)} (h : LMap w l S) : l < w.heap.size := by obtain ⟨D, hown, _⟩ := h; exact hown.lt
theorem LMap.kept {w w' : World} {l : Nat} {S : List (Int × Nat)} (h : LMap w l S) (hb : w'.heap[l]? = w.heap[l]?) : LMap w' l S := by
  obtain ⟨D, ⟨es, clock, h1, h2⟩, h3⟩ := h
  exact ⟨D, ⟨es, clock, hb.trans h1, h2⟩, h3⟩
theorem LMap.isMap {w : World} {l : Nat} {S : List (Int × Nat)} (h : LMap w l S) : ∃ es clock, w.heap[l]? = some (.map es clock) := by
  obtain ⟨D, ⟨es, clock, h1, _⟩, _⟩ := h
  exact ⟨es, clock, h1⟩
theorem LMap.made (w : World) : LMap (w.alloc (.map #[] 0)) w.heap.size [] :=
  ⟨.map [], World.ownsMap_made w _ _ _, rfl, List.nodup_nil, (fun x (h : x ∈ []) => absurd h (by simp)), fun x hx => ⟨by simp [Maps.has], fun h => absurd h (by simp)⟩⟩

theorem LMap.look {w : World} {l : Nat} {S : List (Int × Nat)} (h : LMap w l S) {x : Int × Nat} (hx : SecOk x) :
    (Instr.lookup 57 (.map (some l)) (.agg #[.int .i64 x.1, .int .i64 (x.2 : Int)]) false).run Tryz.prog w = .ok (.bool (decide (x ∈ S))) w := by
  obtain ⟨D, hown, _, _, _, hall⟩ := h
  obtain ⟨v, ps, hrun, hv⟩ := hown.lookup lawSec Tryz.underlying57 (zeroBool w) (zd := .lit (.bool false)) (zp := []) (plainElem_bool Tryz.underlying4 false) (key_sec hx)
  obtain ⟨h1, h2⟩ := hall x hx
  have hb : ∀ {b : Bool} {v : Value} {ps : List MemPlace}, plainElem (H := Unit) Tryz.prog 4 v = some (.lit (.bool b), ps) → v = .bool b := by
    intro b v ps hv
    unfold plainElem at hv
    rw [Tryz.underlying4] at hv
    cases v <;> simp at hv
    rw [hv.1]
  show (Instr.lookup 57 (.map (some l)) (sval x) false).run Tryz.prog w = _
  rw [hrun]
  by_cases c : x ∈ S
  · rw [h2 c] at hv
    rw [hb hv, decide_eq_true c]
  · rw [Maps.atKey_of_not_has (by rw [h1]; exact decide_eq_false c)] at hv
    rw [hb hv, decide_eq_false c]

theorem LMap.add {w : World} {l : Nat} {S : List (Int × Nat)} (h : LMap w l S) {x : Int × Nat} (hx : SecOk x) (hn : x ∉ S) (hs : S.length < 9223372036854775807) :
    ∃ w', (Instr.mapUpdate 57 (.map (some l)) (.agg #[.int .i64 x.1, .int .i64 (x.2 : Int)]) (.bool true)).run Tryz.prog w = .ok () w' ∧ LMap w' l (S ++ [x]) ∧ w.mapTurned w' l := by
  obtain ⟨D, hown, hsz, hnd, hok, hall⟩ := h
  obtain ⟨w', hrun, hown', ht⟩ := hown.store lawSec Tryz.underlying57 (by unfold maxLen; omega) (key_sec hx) (plainElem_bool (H := Unit) Tryz.underlying4 true)
  refine ⟨w', hrun, ⟨_, by rw [List.length_append]; exact hown', ?_, ?_, ?_, fun y hy => ?_⟩, ht⟩
  · rw [Maps.size_put (hown.tidy lawSec), (hall x hx).1, decide_eq_false hn, hsz]; simp
  · rw [List.nodup_append]
    refine ⟨hnd, by simp, fun a ha b hb e => ?_⟩
    simp at hb
    rw [e, hb] at ha
    exact hn ha
  · intro y hy
    rcases List.mem_append.mp hy with hy | hy
    · exact hok y hy
    · simp at hy; rw [hy]; exact hx
  · by_cases c : y = x
    · subst c
      refine ⟨by rw [Maps.has_put_same hown.isMap (skey_key hx)]; simp, fun _ z => Maps.atKey_put_same hown.isMap (skey_key hx) _ _⟩
    · have hne : skey y ≠ skey x := fun e => c (skey_inj hy hx e)
      refine ⟨by rw [Maps.has_put_other hne, (hall y hy).1]; simp [c], fun hm z => ?_⟩
      rw [Maps.atKey_put_other hne]
      refine (hall y hy).2 ?_ z
      rcases List.mem_append.mp hm with hm | hm
      · exact hm
      · simp at hm; exact absurd hm c

theorem LMap.del {w : World} {l : Nat} {S : List (Int × Nat)} (h : LMap w l S) {x : Int × Nat} (hx : x ∈ S) (ty : TypeId) :
    ∃ w', (Builtin.delete_ #[57, 80] ty #[.map (some l), .agg #[.int .i64 x.1, .int .i64 (x.2 : Int)]]).run Tryz.prog w = .ok (.tuple #[]) w' ∧ LMap w' l (S.erase x) ∧ w.mapTurned w' l := by
  obtain ⟨D, hown, hsz, hnd, hok, hall⟩ := h
  have hxo := hok x hx
  obtain ⟨w', hrun, hown', ht⟩ := hown.drop lawSec Tryz.underlying57 (key_sec hxo) ty
  have hlen : (S.erase x).length + 1 = S.length := by
    rw [List.length_erase_of_mem hx]
    have := List.length_pos_of_mem hx
    omega
  have hsz' : Maps.size (D.del (skey x)) = (S.erase x).length := by
    have := Maps.size_del (k := skey x) (hown.tidy lawSec)
    rw [(hall x hxo).1, decide_eq_true hx, hsz] at this
    simp at this
    omega
  refine ⟨w', hrun, ⟨_, by rw [← hsz']; exact own_size hown', hsz', hnd.erase _, fun y hy => hok y (List.mem_of_mem_erase hy), fun y hy => ?_⟩, ht⟩
  by_cases c : y = x
  · subst c
    have hn : y ∉ S.erase y := fun hm => (hnd.mem_erase_iff.1 hm).1 rfl
    refine ⟨by rw [Maps.has_del_same, decide_eq_false hn], fun hm => absurd hm hn⟩
  · have hne : skey y ≠ skey x := fun e => c (skey_inj hy hxo e)
    refine ⟨by rw [Maps.has_del_other hne, (hall y hy).1]; simp [hnd.mem_erase_iff, c], fun hm z => ?_⟩
    rw [Maps.atKey_del_other hne]
    exact (hall y hy).2 (List.mem_of_mem_erase hm) z

end Go.Proofs.YtbpkcgkcamkggaaGreatDoor
namespace Go.Proofs.YtbpkcgkcamkggaaGreatDoor
open Go.RowKit

/-- where the program's disk lies: the map of the files, the set of the listed sectors, each file's block, its two rows (false: its bytes; true: its durable part), the list of pending sectors, what survives the scheduled crash. -/
structure Lay where
  m : Nat
  l : Nat
  fb : Int → Nat
  rv : Int → Bool → Value
  qv : Value
  kv : Value

/-- the one side of a file or the other. -/
def side (now last : Int → List UInt8) (f : Int) (s : Bool) : List UInt8 := if s then last f else now f

structure FilesAt (w : World) (L : Lay) (now last : Int → List UInt8) : Prop where
  map : FMap w L.m L.fb
  file : ∀ f, Dk.fileOk f → w.heap[L.fb f]? = some (.cells #[L.rv f false, L.rv f true] 64 (0, 0))
  row : ∀ f s, Dk.fileOk f → w.ownsRow 0 5 1 (L.rv f s) (side now last f s).length (bcs (side now last f s))
  inj : ∀ f g, Dk.fileOk f → Dk.fileOk g → L.fb f = L.fb g → f = g
  apart : ∀ f s g t b, Dk.fileOk f → Dk.fileOk g → (L.rv f s).ownBlock = some b → (L.rv g t).ownBlock = some b → f = g ∧ s = t

/-- the blocks of the files. -/
def FOwn (L : Lay) (b : Nat) : Prop := b = L.m ∨ ∃ f, Dk.fileOk f ∧ (b = L.fb f ∨ ∃ s, (L.rv f s).ownBlock = some b)

/-- a row stays owned where its block stays. -/
theorem ownKeep {w w' : World} {B e size n : Nat} {v : Value} {xs : List Value} (h : w.ownsRow B e size v n xs) (hk : ∀ b, v.ownBlock = some b → w'.heap[b]? = w.heap[b]?) : w'.ownsRow B e size v n xs :=
  ⟨h.1, h.2.imp id fun ⟨g, cap, cur, h1, h2, h3, h4⟩ => ⟨g, cap, cur, h1, h2, (hk g (by rw [h1]; rfl)).trans h3, h4⟩⟩
theorem ownKind {w : World} {B e size n b : Nat} {v : Value} {xs : List Value} (h : w.ownsRow B e size v n xs) (hb : v.ownBlock = some b) : ∃ cur, w.heap[b]? = some (.cells cur e (0, 0)) := by
  rcases h.2 with ⟨rfl, _⟩ | ⟨g, cap, cur, rfl, _, h3, _⟩
  · cases hb
  · injection hb with hb
    subst hb
    exact ⟨cur, h3⟩
theorem ownBase {w : World} {B B' e size n : Nat} {v : Value} {xs : List Value} (h : w.ownsRow B e size v n xs) (hb : B' ≤ B) : w.ownsRow B' e size v n xs :=
  ⟨h.1, h.2.imp id fun ⟨g, cap, cur, h1, h2, h3⟩ => ⟨g, cap, cur, h1, Nat.le_trans hb h2, h3⟩⟩

theorem FilesAt.kind {w : World} {L : Lay} {now last : Int → List UInt8} (h : FilesAt w L now last) {b : Nat} (hb : FOwn L b) :
    (∃ es c, w.heap[b]? = some (.map es c)) ∨ (∃ c, w.heap[b]? = some (.cells c 64 (0, 0))) ∨ ∃ c, w.heap[b]? = some (.cells c 5 (0, 0)) := by
  rcases hb with rfl | ⟨f, hf, rfl | ⟨s, hs⟩⟩
  · exact .inl h.map.isMap
  · exact .inr (.inl ⟨_, h.file f hf⟩)
  · exact .inr (.inr (ownKind (h.row f s hf) hs))
theorem FilesAt.lt {w : World} {L : Lay} {now last : Int → List UInt8} (h : FilesAt w L now last) {b : Nat} (hb : FOwn L b) : b < w.heap.size := by
  rcases h.kind hb with ⟨_, _, h⟩ | ⟨_, h⟩ | ⟨_, h⟩ <;> exact brow_lt h
/-- a block of another type is none of the files'. -/
theorem FilesAt.free {w : World} {L : Lay} {now last : Int → List UInt8} (h : FilesAt w L now last) {b : Nat} {c : Array Value} {T : TypeId} {z : Nat × Nat} (hb : w.heap[b]? = some (.cells c T z)) (h1 : T ≠ 64) (h2 : T ≠ 5) : ¬ FOwn L b := by
  intro ho
  rcases h.kind ho with ⟨_, _, h⟩ | ⟨_, h⟩ | ⟨_, h⟩
  · rw [hb] at h; cases h
  · rw [hb] at h; simp only [Option.some.injEq, Obj.cells.injEq] at h; exact h1 h.2.1
  · rw [hb] at h; simp only [Option.some.injEq, Obj.cells.injEq] at h; exact h2 h.2.1
theorem FilesAt.keep {w w' : World} {L : Lay} {now last : Int → List UInt8} (h : FilesAt w L now last) (hk : ∀ b, FOwn L b → w'.heap[b]? = w.heap[b]?) : FilesAt w' L now last :=
  ⟨h.map.kept (hk _ (.inl rfl)), fun f hf => (hk _ (.inr ⟨f, hf, .inl rfl⟩)).trans (h.file f hf), fun f s hf => ownKeep (h.row f s hf) fun b hb => hk b (.inr ⟨f, hf, .inr ⟨s, hb⟩⟩), h.inj, h.apart⟩

/-- another row of a file. -/
def Lay.setRow (L : Lay) (f : Int) (s : Bool) (v : Value) : Lay := { L with rv := fun g t => if g = f ∧ t = s then v else L.rv g t }
def setSide (F : Int → List UInt8) (f : Int) (b : Bool) (X : List UInt8) : Int → List UInt8 := if b then upd F f X else F
theorem side_set (now last : Int → List UInt8) (f : Int) (s : Bool) (X : List UInt8) (g : Int) (t : Bool) :
    side (setSide now f (!s) X) (setSide last f s X) g t = if g = f ∧ t = s then X else side now last g t := by
  unfold side setSide
  by_cases c : g = f
  · subst c
    cases s <;> cases t <;> simp [upd_same]
  · cases s <;> cases t <;> simp [c, upd_other c]

theorem FilesAt.setRow {w w' : World} {L : Lay} {now last : Int → List UInt8} (h : FilesAt w L now last) {f : Int} (hf : Dk.fileOk f) (s : Bool) {v : Value} {X : List UInt8}
    (hv : w'.ownsRow 0 5 1 v X.length (bcs X)) (hc : w'.heap[L.fb f]? = some (.cells #[(L.setRow f s v).rv f false, (L.setRow f s v).rv f true] 64 (0, 0)))
    (hk : ∀ b, b < w.heap.size → b ≠ L.fb f → (L.rv f s).ownBlock ≠ some b → w'.heap[b]? = w.heap[b]?)
    (hn : v.ownBlock = (L.rv f s).ownBlock ∨ ∀ b, v.ownBlock = some b → w.heap.size ≤ b) :
    FilesAt w' (L.setRow f s v) (setSide now f (!s) X) (setSide last f s X) := by
  have hother : ∀ g t b, Dk.fileOk g → ¬ (g = f ∧ t = s) → (L.rv g t).ownBlock = some b → (L.rv f s).ownBlock ≠ some b := by
    intro g t b hg hne hb e
    exact hne (h.apart g t f s b hg hf hb e)
  have hfb : ∀ g t b, Dk.fileOk g → (L.rv g t).ownBlock = some b → b ≠ L.fb f := by
    intro g t b hg hb e
    obtain ⟨c, hc⟩ := ownKind (h.row g t hg) hb
    rw [e, h.file f hf] at hc
    simp only [Option.some.injEq, Obj.cells.injEq] at hc
    exact absurd hc.2.1 (by decide)
  refine ⟨?_, ?_, ?_, h.inj, ?_⟩
  · refine h.map.kept (hk _ h.map.lt (fun e => ?_) (fun e => ?_))
    · obtain ⟨es, c, hm⟩ := h.map.isMap
      rw [e, h.file f hf] at hm; cases hm
    · obtain ⟨es, c, hm⟩ := h.map.isMap
      obtain ⟨c2, hm2⟩ := ownKind (h.row f s hf) e
      rw [hm] at hm2; cases hm2
  · intro g hg
    by_cases c : g = f
    · subst c; exact hc
    · have e : ∀ t, (L.setRow f s v).rv g t = L.rv g t := fun t => by simp [Lay.setRow, c]
      rw [e, e]
      refine (hk _ (brow_lt (h.file g hg)) (fun e => c (h.inj g f hg hf e)) (fun e => ?_)).trans (h.file g hg)
      obtain ⟨c2, hm2⟩ := ownKind (h.row f s hf) e
      have h3 := h.file g hg
      rw [h3] at hm2
      simp only [Option.some.injEq, Obj.cells.injEq] at hm2
      exact absurd hm2.2.1 (by decide)
  · intro g t hg
    rw [side_set]
    by_cases c : g = f ∧ t = s
    · rw [if_pos c, show (L.setRow f s v).rv g t = v by simp [Lay.setRow, c]]
      exact hv
    · rw [if_neg c, show (L.setRow f s v).rv g t = L.rv g t by simp [Lay.setRow, c]]
      refine ownKeep (h.row g t hg) fun b hb => hk b ?_ (hfb g t b hg hb) (hother g t b hg c hb)
      obtain ⟨c2, h2⟩ := ownKind (h.row g t hg) hb
      exact brow_lt h2
  · intro g t g' t' b hg hg' hb hb'
    have hlt : ∀ g t, Dk.fileOk g → (L.rv g t).ownBlock = some b → b < w.heap.size := fun g t hg hb => by
      obtain ⟨c2, h2⟩ := ownKind (h.row g t hg) hb
      exact brow_lt h2
    by_cases c : g = f ∧ t = s
    · by_cases c' : g' = f ∧ t' = s
      · exact ⟨c.1.trans c'.1.symm, c.2.trans c'.2.symm⟩
      · rw [show (L.setRow f s v).rv g t = v by simp [Lay.setRow, c]] at hb
        rw [show (L.setRow f s v).rv g' t' = L.rv g' t' by simp [Lay.setRow, c']] at hb'
        rcases hn with hn | hn
        · rw [hn] at hb
          exact absurd hb (hother g' t' b hg' c' hb')
        · have := hn b hb
          have := hlt g' t' hg' hb'
          omega
    · rw [show (L.setRow f s v).rv g t = L.rv g t by simp [Lay.setRow, c]] at hb
      by_cases c' : g' = f ∧ t' = s
      · rw [show (L.setRow f s v).rv g' t' = v by simp [Lay.setRow, c']] at hb'
        rcases hn with hn | hn
        · rw [hn] at hb'
          exact absurd hb' (hother g t b hg c hb)
        · have := hn b hb'
          have := hlt g t hg hb
          omega
      · rw [show (L.setRow f s v).rv g' t' = L.rv g' t' by simp [Lay.setRow, c']] at hb'
        exact h.apart g t g' t' b hg hg' hb hb'

/-- what may turn: blocks of O, and new ones. -/
structure PFr (O : Nat → Prop) (w w' : World) : Prop where
  os : w'.os = w.os
  tape : w'.tape = w.tape
  output : w'.output = w.output
  size : w.heap.size ≤ w'.heap.size
  block : ∀ k, k < w.heap.size → ¬ O k → w'.heap[k]? = w.heap[k]?

theorem PFr.refl (O : Nat → Prop) (w : World) : PFr O w w := ⟨rfl, rfl, rfl, Nat.le_refl _, fun _ _ _ => rfl⟩
theorem PFr.of_below {O : Nat → Prop} {w w' : World} (h : Below w.heap.size w w') : PFr O w w' := ⟨h.os, h.tape, h.output, h.size, fun k hk _ => h.block k hk⟩
theorem PFr.of_grown {O : Nat → Prop} {w w' : World} {row : Option Nat} (h : w.grownBy w' row) (hr : ∀ b, row = some b → O b) : PFr O w w' :=
  ⟨h.os, h.tape, h.output, h.size, fun k hk hn => h.block k hk (fun e => hn (hr k e.symm))⟩
theorem PFr.trans {O O' : Nat → Prop} {a b c : World} (h : PFr O a b) (k : PFr O' b c) (hs : ∀ i, O' i → O i ∨ a.heap.size ≤ i) : PFr O a c :=
  ⟨k.os.trans h.os, k.tape.trans h.tape, k.output.trans h.output, Nat.le_trans h.size k.size, fun i hi hn =>
    (k.block i (Nat.lt_of_lt_of_le hi h.size) (fun ho => by
      rcases hs i ho with h1 | h1
      · exact hn h1
      · omega)).trans (h.block i hi hn)⟩
theorem PFr.below {O : Nat → Prop} {B : Nat} {w w' : World} (h : PFr O w w') (hB : B ≤ w.heap.size) (ho : ∀ b, O b → B ≤ b) : Below B w w' :=
  ⟨h.os, h.tape, h.output, h.size, fun k hk => h.block k (by omega) (fun c => by have := ho k c; omega)⟩
theorem grownOne (w : World) (r i : Nat) (u : Value) : w.grownBy (w.setCell ⟨r, i, none⟩ u) (some r) :=
  ⟨rfl, rfl, rfl, by simp [World.setCell], fun k _ hk => Below.heap_setCell _ _ _ _ (fun e => hk (by simp [e]))⟩

/-- the blocks of a disk that it may write. -/
def Own (r : Nat) (L : Lay) (b : Nat) : Prop := b = r ∨ b = L.l ∨ L.qv.ownBlock = some b ∨ FOwn L b

/-- the disk d but for its list of pending sectors; the set is S. -/
structure PRaw (r : Nat) (L : Lay) (d : Dk) (S : List (Int × Nat)) (w : World) : Prop where
  cell : w.heap[r]? = some (.cells #[.map (some L.m), L.qv, .map (some L.l), .int .i64 (d.lost : Int), .int .i64 (d.armed : Int), L.kv, .bool d.down] 60 (0, 0))
  files : FilesAt w L d.now d.last
  set : LMap w L.l S
  keep : w.ownsRow 0 3 1 L.kv d.keep.length (d.keep.map (Value.int .i64))
  ne : L.m ≠ L.l

/-- the disk d. -/
structure PAt (r : Nat) (L : Lay) (d : Dk) (w : World) : Prop where
  raw : PRaw r L d d.q w
  queue : w.ownsRow 0 80 2 L.qv d.q.length (qcells d.q)

/-- a step: from L to L', only blocks of L and new ones have turned. -/
structure PStep (r : Nat) (L L' : Lay) (w w' : World) : Prop where
  fr : PFr (Own r L) w w'
  own : ∀ b, Own r L' b → Own r L b ∨ w.heap.size ≤ b
  kv : ∀ b, L'.kv.ownBlock = some b → L.kv.ownBlock = some b ∨ w.heap.size ≤ b
theorem PStep.refl (r : Nat) (L : Lay) (w : World) : PStep r L L w w := ⟨PFr.refl _ _, fun _ h => .inl h, fun _ h => .inl h⟩
theorem PStep.trans {r : Nat} {L L' L'' : Lay} {a b c : World} (h : PStep r L L' a b) (k : PStep r L' L'' b c) : PStep r L L'' a c :=
  ⟨h.fr.trans k.fr h.own, fun i hi => by
    rcases k.own i hi with h1 | h1
    · exact h.own i h1
    · have := h.fr.size
      right; omega, fun i hi => by
    rcases k.kv i hi with h1 | h1
    · exact h.kv i h1
    · have := h.fr.size
      right; omega⟩
theorem PStep.of_below {r : Nat} {L : Lay} {w w' : World} (h : Below w.heap.size w w') : PStep r L L w w' := ⟨PFr.of_below h, fun _ h => .inl h, fun _ h => .inl h⟩

theorem PRaw.lt {r : Nat} {L : Lay} {d : Dk} {S : List (Int × Nat)} {w : World} (h : PRaw r L d S w) : r < w.heap.size := brow_lt h.cell
/-- the disk's block is none of the others. -/
theorem PRaw.rfree {r : Nat} {L : Lay} {d : Dk} {S : List (Int × Nat)} {w : World} (h : PRaw r L d S w) : ¬ FOwn L r := h.files.free h.cell (by decide) (by decide)
theorem PRaw.rset {r : Nat} {L : Lay} {d : Dk} {S : List (Int × Nat)} {w : World} (h : PRaw r L d S w) : L.l ≠ r := by
  intro e
  obtain ⟨es, c, hm⟩ := h.set.isMap
  rw [e, h.cell] at hm; cases hm
theorem other_kind {w : World} {B e n b size : Nat} {v : Value} {xs : List Value} (h : w.ownsRow B e size v n xs) {c : Array Value} {T : TypeId} {z : Nat × Nat} (hb : w.heap[b]? = some (.cells c T z)) (hT : T ≠ e) : v.ownBlock ≠ some b := by
  intro e
  obtain ⟨c2, h2⟩ := ownKind h e
  rw [hb] at h2
  simp only [Option.some.injEq, Obj.cells.injEq] at h2
  exact hT h2.2.1
theorem other_map {w : World} {B e n b size : Nat} {v : Value} {xs : List Value} (h : w.ownsRow B e size v n xs) {es : Array MapEntry} {c : Nat} (hb : w.heap[b]? = some (.map es c)) : v.ownBlock ≠ some b := by
  intro e
  obtain ⟨c2, h2⟩ := ownKind h e
  rw [hb] at h2; cases h2

theorem PRaw.kept {r : Nat} {L : Lay} {d : Dk} {S : List (Int × Nat)} {w w' : World} (h : PRaw r L d S w) (hk : ∀ b, b = r ∨ b = L.l ∨ FOwn L b ∨ L.kv.ownBlock = some b → w'.heap[b]? = w.heap[b]?) : PRaw r L d S w' :=
  ⟨(hk r (.inl rfl)).trans h.cell, h.files.keep fun b hb => hk b (.inr (.inr (.inl hb))), h.set.kept (hk _ (.inr (.inl rfl))), ownKeep h.keep fun b hb => hk b (.inr (.inr (.inr hb))), h.ne⟩
theorem PAt.kept {r : Nat} {L : Lay} {d : Dk} {w w' : World} (h : PAt r L d w) (hk : ∀ b, Own r L b ∨ L.kv.ownBlock = some b → w'.heap[b]? = w.heap[b]?) : PAt r L d w' :=
  ⟨h.raw.kept fun b hb => hk b (by
      rcases hb with hb | hb | hb | hb
      · exact .inl (.inl hb)
      · exact .inl (.inr (.inl hb))
      · exact .inl (.inr (.inr (.inr hb)))
      · exact .inr hb), ownKeep h.queue fun b hb => hk b (.inl (.inr (.inr (.inl hb))))⟩
theorem PRaw.own_lt {r : Nat} {L : Lay} {d : Dk} {S : List (Int × Nat)} {w : World} (h : PRaw r L d S w) {b : Nat} (hb : b = r ∨ b = L.l ∨ FOwn L b ∨ L.kv.ownBlock = some b) : b < w.heap.size := by
  rcases hb with rfl | rfl | hb | hb
  · exact h.lt
  · exact h.set.lt
  · exact h.files.lt hb
  · obtain ⟨c, hc⟩ := ownKind h.keep hb
    exact brow_lt hc
theorem PAt.own_lt {r : Nat} {L : Lay} {d : Dk} {w : World} (h : PAt r L d w) {b : Nat} (hb : Own r L b ∨ L.kv.ownBlock = some b) : b < w.heap.size := by
  rcases hb with (hb | hb | hb | hb) | hb
  · exact h.raw.own_lt (.inl hb)
  · exact h.raw.own_lt (.inr (.inl hb))
  · obtain ⟨c, hc⟩ := ownKind h.queue hb
    exact brow_lt hc
  · exact h.raw.own_lt (.inr (.inr (.inl hb)))
  · exact h.raw.own_lt (.inr (.inr (.inr hb)))
theorem PRaw.below {r : Nat} {L : Lay} {d : Dk} {S : List (Int × Nat)} {w w' : World} (h : PRaw r L d S w) (hb : Below w.heap.size w w') : PRaw r L d S w' :=
  h.kept fun b ho => hb.block b (h.own_lt ho)
theorem PAt.below {r : Nat} {L : Lay} {d : Dk} {w w' : World} (h : PAt r L d w) (hb : Below w.heap.size w w') : PAt r L d w' :=
  h.kept fun b ho => hb.block b (h.own_lt ho)

/-- what may be read of the disk's block. -/
theorem PRaw.cells {r : Nat} {L : Lay} {d : Dk} {S : List (Int × Nat)} {w : World} (h : PRaw r L d S w) :
    w.cell? ⟨r, 0, none⟩ = some (.map (some L.m)) ∧ w.cell? ⟨r, 1, none⟩ = some L.qv ∧ w.cell? ⟨r, 2, none⟩ = some (.map (some L.l)) ∧ w.cell? ⟨r, 3, none⟩ = some (.int .i64 (d.lost : Int))
      ∧ w.cell? ⟨r, 4, none⟩ = some (.int .i64 (d.armed : Int)) ∧ w.cell? ⟨r, 5, none⟩ = some L.kv ∧ w.cell? ⟨r, 6, none⟩ = some (.bool d.down) ∧ ∀ i, w.frozen? ⟨r, i, none⟩ = false := by
  refine ⟨?_, ?_, ?_, ?_, ?_, ?_, ?_, fun i => Lib.frozen_of_heap h.cell i⟩
  all_goals rw [Lib.cell_of_heap h.cell]
  all_goals rfl
theorem FilesAt.cells {w : World} {L : Lay} {now last : Int → List UInt8} (h : FilesAt w L now last) {f : Int} (hf : Dk.fileOk f) :
    w.cell? ⟨L.fb f, 0, none⟩ = some (L.rv f false) ∧ w.cell? ⟨L.fb f, 1, none⟩ = some (L.rv f true) ∧ ∀ i, w.frozen? ⟨L.fb f, i, none⟩ = false := by
  refine ⟨?_, ?_, fun i => Lib.frozen_of_heap (h.file f hf) i⟩
  all_goals rw [Lib.cell_of_heap (h.file f hf)]
  all_goals rfl

/-- the disk's block, one cell of it turned. -/
theorem PRaw.store {r : Nat} {L L' : Lay} {d d' : Dk} {S S' : List (Int × Nat)} {w : World} (h : PRaw r L d S w) (i : Nat) (u : Value)
    (hm : L'.m = L.m) (hfb : L'.fb = L.fb) (hrv : L'.rv = L.rv) (hnow : d'.now = d.now) (hlast : d'.last = d.last)
    (hcell : (#[.map (some L.m), L.qv, .map (some L.l), .int .i64 (d.lost : Int), .int .i64 (d.armed : Int), L.kv, .bool d.down] : Array Value).setIfInBounds i u
      = #[.map (some L'.m), L'.qv, .map (some L'.l), .int .i64 (d'.lost : Int), .int .i64 (d'.armed : Int), L'.kv, .bool d'.down])
    (hset : LMap w L'.l S') (hkeep : w.ownsRow 0 3 1 L'.kv d'.keep.length (d'.keep.map (Value.int .i64))) (hne : L'.m ≠ L'.l) : PRaw r L' d' S' (w.setCell ⟨r, i, none⟩ u) := by
  have hb : ∀ b, b ≠ r → (w.setCell ⟨r, i, none⟩ u).heap[b]? = w.heap[b]? := fun b hb => Below.heap_setCell _ _ _ _ (fun e => hb e)
  have hfo : ∀ b, FOwn L' b ↔ FOwn L b := fun b => by unfold FOwn; rw [hm, hfb, hrv]
  refine ⟨?_, ?_, ?_, ?_, hne⟩
  · rw [heap_set h.cell, hcell]
  · rw [hnow, hlast]
    have hf : FilesAt w L' d.now d.last := ⟨by rw [hm, hfb]; exact h.files.map, by rw [hfb, hrv]; exact h.files.file, by rw [hrv]; exact h.files.row, by rw [hfb]; exact h.files.inj, by rw [hrv]; exact h.files.apart⟩
    exact hf.keep fun b ho => hb b fun e => h.rfree (by rw [← e]; exact (hfo b).1 ho)
  · refine hset.kept (hb _ fun e => ?_)
    obtain ⟨es, c, hm⟩ := hset.isMap
    rw [e, h.cell] at hm; cases hm
  · exact ownKeep hkeep fun b ho => hb b fun e => other_kind hkeep h.cell (by decide) (by rw [← e]; exact ho)

/-- a store into the disk's block is a step. -/
theorem PStep.store {r : Nat} {L L' : Lay} {w : World} (i : Nat) (u : Value) (hm : L'.m = L.m) (hfb : L'.fb = L.fb) (hrv : L'.rv = L.rv) (hl : L'.l = L.l ∨ w.heap.size ≤ L'.l)
    (hq : ∀ b, L'.qv.ownBlock = some b → L.qv.ownBlock = some b ∨ w.heap.size ≤ b) (hkv : ∀ b, L'.kv.ownBlock = some b → L.kv.ownBlock = some b ∨ w.heap.size ≤ b := by exact fun _ h => .inl h) : PStep r L L' w (w.setCell ⟨r, i, none⟩ u) :=
  ⟨PFr.of_grown (grownOne w r i u) (fun b e => by injection e with e; exact .inl e.symm), fun b hb => by
    rcases hb with hb | hb | hb | hb
    · exact .inl (.inl hb)
    · rcases hl with hl | hl
      · exact .inl (.inr (.inl (hb.trans hl)))
      · right; omega
    · rcases hq b hb with h1 | h1
      · exact .inl (.inr (.inr (.inl h1)))
      · exact .inr h1
    · left; right; right; right
      unfold FOwn at hb ⊢
      rw [hm, hfb, hrv] at hb; exact hb, hkv⟩

/-- a set may be told by any list of the same sectors. -/
theorem LMap.same {w : World} {l : Nat} {S S' : List (Int × Nat)} (h : LMap w l S) (hn : S'.Nodup) (he : ∀ x, x ∈ S' ↔ x ∈ S) : LMap w l S' := by
  obtain ⟨D, hown, hsz, hnd, hok, hall⟩ := h
  have hl : S'.length = S.length := ((List.perm_ext_iff_of_nodup hn hnd).2 he).length_eq
  refine ⟨D, by rw [hl]; exact hown, by rw [hl]; exact hsz, hn, fun x hx => hok x ((he x).1 hx), fun x hx => ⟨?_, fun hm => (hall x hx).2 ((he x).1 hm)⟩⟩
  rw [(hall x hx).1]
  simp only [decide_eq_decide]
  exact (he x).symm

end Go.Proofs.YtbpkcgkcamkggaaGreatDoor
namespace Go.Proofs.YtbpkcgkcamkggaaGreatDoor
open Go.RowKit

set_option maxHeartbeats 1000000 in
theorem pSize_any (r : Nat) (L : Lay) (d : Dk) (f : Int) (w : World) (h : PAt r L d w) (ho : Dk.Ok d) (h64 : In64 f) :
    Calls Tryz.prog 27 #[.pointer (some ⟨r, 0, none⟩), .int .i64 f] w fun e w' => e = .returned (.int .i64 ((d.now f).length : Int)) ∧ w' = w := by
  obtain ⟨c0, _⟩ := h.raw.cells
  by_cases hf : Dk.fileOk f
  · have hl := h.raw.files.map.look_ok hf
    obtain ⟨k0, _⟩ := h.raw.files.cells hf
    obtain ⟨A, cap, hv, _⟩ := own_parts (h.raw.files.row f false hf)
    rw [hv] at k0
    have e : side d.now d.last f false = d.now f := rfl
    rw [e] at k0
    have HB := ho.big f
    clear h hv e
    generalize (d.now f).length = n at *
    go_enter Tryz.func27, Tryz.ntmps27
    go_wp2
    go_ret
    exact ⟨rfl, rfl⟩
  · have hl := h.raw.files.map.look_no h64 hf
    have hz : (d.now f).length = 0 := by rw [ho.none f hf]; rfl
    have HZ := Lib.hid hz
    clear h hz
    go_enter Tryz.func27, Tryz.ntmps27
    go_wp2
    go_ret
    rw [HZ.out]
    exact ⟨rfl, rfl⟩

set_option maxHeartbeats 1000000 in
theorem pStart_any (r : Nat) (L : Lay) (d : Dk) (w : World) (h : PAt r L d w) :
    Calls Tryz.prog 22 #[.pointer (some ⟨r, 0, none⟩)] w fun e w' => e = .returned (.tuple #[]) ∧ PAt r L { d with down := false } w' ∧ PStep r L L w w' := by
  have hs : PAt r L { d with down := false } (w.setCell ⟨r, 6, none⟩ (.bool false)) := by
    have h1 := h.raw.store (L' := L) (d' := { d with down := false }) 6 (.bool false) rfl rfl rfl rfl rfl rfl h.raw.set h.raw.keep h.raw.ne
    exact ⟨h1, ownKeep h.queue fun b hb => Below.heap_setCell _ _ _ _ (fun e => other_kind h.queue h.raw.cell (by decide) (by rw [hb, e]))⟩
  have hp : PStep r L L w (w.setCell ⟨r, 6, none⟩ (.bool false)) := PStep.store 6 _ rfl rfl rfl (.inl rfl) (fun _ h => .inl h)
  have HS := Lib.hid hs
  have HP := Lib.hid hp
  obtain ⟨_, _, _, _, _, _, c6, hz⟩ := h.raw.cells
  have hz6 := hz 6
  clear h hs hp hz
  go_enter Tryz.func22, Tryz.ntmps22
  go_wp2
  refine bodyPost_end (results_none rfl _ _ _) rfl ?_
  exact ⟨rfl, HS.out, HP.out⟩

/-- a store of a number or a truth into the disk's block. -/
theorem PAt.put {r : Nat} {L : Lay} {d d' : Dk} {w : World} (h : PAt r L d w) (i : Nat) (u : Value) (hnow : d'.now = d.now) (hlast : d'.last = d.last) (hq : d'.q = d.q) (hk : d'.keep = d.keep)
    (hcell : (#[.map (some L.m), L.qv, .map (some L.l), .int .i64 (d.lost : Int), .int .i64 (d.armed : Int), L.kv, .bool d.down] : Array Value).setIfInBounds i u
      = #[.map (some L.m), L.qv, .map (some L.l), .int .i64 (d'.lost : Int), .int .i64 (d'.armed : Int), L.kv, .bool d'.down]) :
    PAt r L d' (w.setCell ⟨r, i, none⟩ u) ∧ PStep r L L w (w.setCell ⟨r, i, none⟩ u) :=
  ⟨⟨h.raw.store i u rfl rfl rfl hnow hlast hcell (by rw [hq]; exact h.raw.set) (by rw [hk]; exact h.raw.keep) h.raw.ne,
    by rw [hq]; exact ownKeep h.queue fun b hb => Below.heap_setCell _ _ _ _ (fun e => other_kind h.queue h.raw.cell (by decide) (by rw [hb, e]))⟩,
   PStep.store i _ rfl rfl rfl (.inl rfl) (fun _ h => .inl h)⟩

set_option maxHeartbeats 1000000 in
theorem pLose_any (r : Nat) (L : Lay) (d : Dk) (n : Int) (w : World) (h : PAt r L d w) (h64 : In64 n) :
    Calls Tryz.prog 16 #[.pointer (some ⟨r, 0, none⟩), .int .i64 n] w fun e w' => e = .returned (.tuple #[]) ∧ PAt r L (d.lose n) w' ∧ PStep r L L w w' := by
  have hs := h.put (d' := d.lose n) 3 (.int .i64 ((n.toNat : Nat) : Int)) rfl rfl rfl rfl rfl
  have HS := Lib.hid hs
  obtain ⟨_, _, _, c3, _, _, _, hz⟩ := h.raw.cells
  have hz3 := hz 3
  clear h hs hz
  obtain ⟨h0, h1⟩ := h64
  by_cases c : 0 ≤ n
  · have e : ((n.toNat : Nat) : Int) = n := by omega
    rw [e] at HS
    clear e
    go_enter Tryz.func16, Tryz.ntmps16
    go_wp2
    refine bodyPost_end (results_none rfl _ _ _) rfl ?_
    have hm : max n 0 = n := by omega
    first
      | exact ⟨rfl, HS.out⟩
      | (rw [hm]; exact ⟨rfl, HS.out⟩)
  · have e : ((n.toNat : Nat) : Int) = 0 := by omega
    rw [e] at HS
    clear e
    have c' : n < 0 := by omega
    go_enter Tryz.func16, Tryz.ntmps16
    go_wp2
    refine bodyPost_end (results_none rfl _ _ _) rfl ?_
    have hm : max n 0 = 0 := by omega
    first
      | exact ⟨rfl, HS.out⟩
      | (rw [hm]; exact ⟨rfl, HS.out⟩)

/-- counts a call. -/
def DuePost (r : Nat) (L : Lay) (d : Dk) (w : World) (e : Ending) (w' : World) : Prop :=
  e = .returned (.bool (decide (d.armed = 1))) ∧ PAt r L { d with armed := d.armed - 1 } w' ∧ PStep r L L w w'

set_option maxHeartbeats 1000000 in
theorem pDue_any (r : Nat) (L : Lay) (d : Dk) (w : World) (h : PAt r L d w) (ha : d.armed ≤ 9223372036854775807) :
    Calls Tryz.prog 50 #[.pointer (some ⟨r, 0, none⟩)] w (DuePost r L d w) := by
  obtain ⟨_, _, _, _, c4, _, _, hz⟩ := h.raw.cells
  have hz4 := hz 4
  clear hz
  by_cases c0 : d.armed = 0
  · have HX : Hid (DuePost r L d w (.returned (.bool false)) w) := Lib.hid ⟨by rw [c0]; rfl, by
      have e : d = { d with armed := d.armed - 1 } := by
        cases d; simp only at c0; subst c0; rfl
      rw [← e]; exact h, PStep.refl _ _ _⟩
    rw [c0] at c4
    clear h c0 ha
    go_enter Tryz.func50, Tryz.ntmps50
    go_wp2
    go_ret
    exact HX.out
  · have hs := h.put (d' := { d with armed := d.armed - 1 }) 4 (.int .i64 ((d.armed - 1 : Nat) : Int)) rfl rfl rfl rfl rfl
    have e1 : ((d.armed - 1 : Nat) : Int) = (d.armed : Int) - 1 := by omega
    by_cases c1 : d.armed = 1
    · have HX : Hid (DuePost r L d w (.returned (.bool true)) (w.setCell ⟨r, 4, none⟩ (.int .i64 0))) := Lib.hid ⟨by rw [c1]; rfl, by
        rw [c1] at hs
        rw [c1]; exact hs.1, by
        rw [c1] at hs
        exact hs.2⟩
      rw [c1] at c4
      clear h hs e1 c0 c1 ha
      go_enter Tryz.func50, Tryz.ntmps50
      go_wp2
      go_ret
      exact HX.out
    · have HX : Hid (DuePost r L d w (.returned (.bool false)) (w.setCell ⟨r, 4, none⟩ (.int .i64 ((d.armed : Int) - 1)))) := Lib.hid ⟨by rw [decide_eq_false c1], by
        rw [← e1]; exact hs.1, by rw [← e1]; exact hs.2⟩
      have g0 : (0 : Int) < (d.armed : Int) := by omega
      have g1 : (1 : Int) < (d.armed : Int) := by omega
      have g2 : ((d.armed : Int) == 0) = false := by simp; omega
      have g3 : ((d.armed : Int) - 1 == 0) = false := by simp; omega
      have g4 : (d.armed : Int) ≤ 9223372036854775807 := by omega
      clear h hs e1 c0 c1 ha
      generalize (d.armed : Int) = a at *
      go_enter Tryz.func50, Tryz.ntmps50
      go_wp2
      go_ret
      exact HX.out

end Go.Proofs.YtbpkcgkcamkggaaGreatDoor
