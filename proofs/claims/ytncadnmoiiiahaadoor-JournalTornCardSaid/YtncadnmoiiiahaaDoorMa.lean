/-
  The program's maps in memory: the files by their numbers, and the set of the listed sectors.
-/
import Derived.Test.YtncadnmoiiiahaaDoorBy
import Derived.Maps.RangeWalk
import Derived.Maps.Ext
import Derived.DeepKeys4
set_option linter.unusedVariables false
set_option maxRecDepth 100000
namespace Go.Proofs.YtncadnmoiiiahaaDoor
open Go.RowKit

theorem laidOutP : laidOutB Tryd.prog = true := by kernel_rfl
theorem rowSec : (70 : TypeId) < Tryd.prog.types.size := of_decide_eq_true (by kernel_rfl)
theorem cellsSec : Tryd.prog.cellsOf 70 = 2 := by kernel_rfl
theorem cellsInt : Tryd.prog.cellsOf 3 = 1 := by kernel_rfl
theorem wideSec : (match Tryd.prog.underlying 70 with | some (.array _ _) | some (.struct _) => true | _ => false) = true := by rw [Tryd.underlying70]
theorem lawSec : Maps.Keyed Tryd.prog 70 := Maps.Keyed.of_law (deep_law_laid laidOutP (m := 2) (by omega) rowSec (by kernel_rfl) wideSec)
theorem lawInt : Maps.Keyed Tryd.prog 3 := Maps.int_keyed Tryd.underlying3
theorem zeroFile (w : World) : (zeroValue 49).run Tryd.prog w = .ok (.pointer none) w := by kernel_rfl
theorem zeroBool (w : World) : (zeroValue 4).run Tryd.prog w = .ok (.bool false) w := by kernel_rfl

/-- a sector as a value, and as a key. -/
def sval (x : Int × Nat) : Value := .agg #[.int .i64 x.1, .int .i64 (x.2 : Int)]
def skey (x : Int × Nat) : Lit := .string (keyBytes [.int .i64 x.1, .int .i64 (x.2 : Int)])
def SecOk (x : Int × Nat) : Prop := In64 x.1 ∧ x.2 ≤ 9223372036854775807

theorem wf_i64 {n : Int} (h : In64 n) : (Lit.int .i64 n).wf = true := WalkArith.wf_i64 (by unfold In64 at h; omega)
theorem key_sec {x : Int × Nat} (h : SecOk x) : keyOf Tryd.prog 70 (sval x) = some (skey x) := by
  have h1 := wf_i64 h.1
  have h2 : (Lit.int .i64 (x.2 : Int)).wf = true := wf_i64 ⟨by omega, by have := h.2; omega⟩
  obtain ⟨d, hd⟩ : ∃ d, Tryd.prog.types.size + 1 = d + 2 := ⟨Tryd.prog.types.size - 1, by have h : (70 : Nat) < Tryd.prog.types.size := rowSec; omega⟩
  have hk : Tryd.prog.keyType 70 = true := by kernel_rfl
  have hf : (sval x).formed Tryd.prog 70 = true := by simp [sval, Value.formed, Tryd.underlying70, cellsSec]
  unfold keyOf
  rw [Tryd.underlying70]
  simp only [hk, hf, hd, Bool.and_self, if_true]
  simp [sval, skey, Value.cells, Program.keyLits, Tryd.underlying70, Tryd.underlying3, cellsSec, cellsInt, h1, h2]
theorem skey_inj {x y : Int × Nat} (hx : SecOk x) (hy : SecOk y) (h : skey x = skey y) : x = y := by
  have h1 := key_sec hx
  rw [h] at h1
  have h2 := lawSec.inj h1 (key_sec hy)
  unfold sval at h2
  simp only [Value.agg.injEq, Array.mk.injEq, List.cons.injEq, Value.int.injEq, true_and, and_true] at h2
  obtain ⟨a, b⟩ := x
  obtain ⟨c, d⟩ := y
  simp only at h2
  rw [h2.1, show b = d by omega]
theorem skey_key {x : Int × Nat} (hx : SecOk x) : WideAt.IsKeyLit (skey x) := lawSec.key (key_sec hx)
theorem key_int {n : Int} (h : In64 n) : keyOf Tryd.prog 3 (.int .i64 n) = some (.int .i64 n) := Maps.keyOf_int_mk Tryd.underlying3 (wf_i64 h)

/-- how a file's pointer reads: as the number of its block. -/
def ptrElem : Value → Option (DataW Unit × List MemPlace)
  | .pointer none => some (.nil, [])
  | .pointer (some ⟨b, 0, none⟩) => some (.lit (.int .i64 (b : Int)), [])
  | _ => none
theorem ptrElem_block {v : Value} {b : Nat} {ps : List MemPlace} (h : ptrElem v = some (.lit (.int .i64 (b : Int)), ps)) : v = .pointer (some ⟨b, 0, none⟩) := by
  unfold ptrElem at h
  split at h
  · simp at h
  · simp only [Option.some.injEq, Prod.mk.injEq, DataW.lit.injEq, Lit.int.injEq, true_and] at h
    obtain ⟨h1, _⟩ := h
    have h2 := Int.ofNat_inj.1 h1
    rw [h2]
  · simp at h
theorem ptrElem_nil {v : Value} {ps : List MemPlace} (h : ptrElem v = some (.nil, ps)) : v = .pointer none := by
  unfold ptrElem at h
  split at h
  · rfl
  · simp at h
  · simp at h

/-- block m is the map of the files: at each file number f a pointer to block fb f. -/
def FMap (w : World) (m : Nat) (fb : Int → Nat) : Prop :=
  ∃ D : DataW Unit, w.ownsMap Tryd.prog 3 ptrElem m 16 D ∧ (∀ f, In64 f → Maps.has D (.int .i64 f) = decide (Dk.fileOk f)) ∧ ∀ f z, Dk.fileOk f → D.atKey (.int .i64 f) z = .lit (.int .i64 (fb f : Int))

theorem fileOk_64 {f : Int} (h : Dk.fileOk f) : In64 f := ⟨by have := h.1; omega, by have := h.2; omega⟩

theorem FMap.look {w : World} {m : Nat} {fb : Int → Nat} (h : FMap w m fb) {f : Int} (hf : Dk.fileOk f) :
    (Instr.lookup 44 (.map (some m)) (.int .i64 f) false).run Tryd.prog w = .ok (.pointer (some ⟨fb f, 0, none⟩)) w := by
  obtain ⟨D, hown, _, hat⟩ := h
  obtain ⟨v, ps, hrun, hv⟩ := hown.lookup lawInt Tryd.underlying44 (zeroFile w) (zd := .nil) (zp := []) rfl (key_int (fileOk_64 hf))
  rw [hat f _ hf] at hv
  rw [hrun, ptrElem_block hv]
theorem FMap.look_ok {w : World} {m : Nat} {fb : Int → Nat} (h : FMap w m fb) {f : Int} (hf : Dk.fileOk f) :
    (Instr.lookup 44 (.map (some m)) (.int .i64 f) true).run Tryd.prog w = .ok (.tuple #[.pointer (some ⟨fb f, 0, none⟩), .bool true]) w := by
  obtain ⟨D, hown, hhas, hat⟩ := h
  obtain ⟨v, ps, hrun, hv⟩ := hown.look_ok lawInt Tryd.underlying44 (zeroFile w) (zd := .nil) (zp := []) rfl (key_int (fileOk_64 hf))
  rw [hat f _ hf] at hv
  rw [hrun, ptrElem_block hv, hhas f (fileOk_64 hf), decide_eq_true hf]
theorem FMap.look_no {w : World} {m : Nat} {fb : Int → Nat} (h : FMap w m fb) {f : Int} (h64 : In64 f) (hf : ¬ Dk.fileOk f) :
    (Instr.lookup 44 (.map (some m)) (.int .i64 f) true).run Tryd.prog w = .ok (.tuple #[.pointer none, .bool false]) w := by
  obtain ⟨D, hown, hhas, hat⟩ := h
  obtain ⟨v, ps, hrun, hv⟩ := hown.look_ok lawInt Tryd.underlying44 (zeroFile w) (zd := .nil) (zp := []) rfl (key_int h64)
  have hn : Maps.has D (.int .i64 f) = false := by rw [hhas f h64]; exact decide_eq_false hf
  rw [Maps.atKey_of_not_has hn] at hv
  rw [hrun, ptrElem_nil hv, hn]
theorem FMap.lt {w : World} {m : Nat} {fb : Int → Nat} (h : FMap w m fb) : m < w.heap.size := by obtain ⟨D, hown, _⟩ := h; exact hown.lt
theorem FMap.kept {w w' : World} {m : Nat} {fb : Int → Nat} (h : FMap w m fb) (hb : w'.heap[m]? = w.heap[m]?) : FMap w' m fb := by
  obtain ⟨D, ⟨es, clock, h1, h2⟩, h3⟩ := h
  exact ⟨D, ⟨es, clock, hb.trans h1, h2⟩, h3⟩
theorem FMap.isMap {w : World} {m : Nat} {fb : Int → Nat} (h : FMap w m fb) : ∃ es clock, w.heap[m]? = some (.map es clock) := by
  obtain ⟨D, ⟨es, clock, h1, _⟩, _⟩ := h
  exact ⟨es, clock, h1⟩

/-- block l is the set of the sectors S. -/
def LMap (w : World) (l : Nat) (S : List (Int × Nat)) : Prop :=
  ∃ D : DataW Unit, w.ownsMap Tryd.prog 70 (plainElem Tryd.prog 4) l S.length D ∧ Maps.size D = S.length ∧ S.Nodup ∧ (∀ x ∈ S, SecOk x)
    ∧ ∀ x, SecOk x → Maps.has D (skey x) = decide (x ∈ S) ∧ (x ∈ S → ∀ z, D.atKey (skey x) z = .lit (.bool true))

theorem own_size {H : Type} {w : World} {P : Program} {k : TypeId} {R : Value → Option (DataW H × List MemPlace)} {b n : Nat} {D : DataW H} (h : w.ownsMap P k R b n D) : w.ownsMap P k R b (Maps.size D) D := by
  obtain ⟨es, clock, h1, h2, h3, h4⟩ := h
  refine ⟨es, clock, h1, h2, ?_, h4⟩
  rw [h4]; simp [Maps.size, length_sorted]

theorem LMap.lt {w : World} {l : Nat} {S : List (Int × Nat)} (h : LMap w l S) : l < w.heap.size := by obtain ⟨D, hown, _⟩ := h; exact hown.lt
theorem LMap.kept {w w' : World} {l : Nat} {S : List (Int × Nat)} (h : LMap w l S) (hb : w'.heap[l]? = w.heap[l]?) : LMap w' l S := by
  obtain ⟨D, ⟨es, clock, h1, h2⟩, h3⟩ := h
  exact ⟨D, ⟨es, clock, hb.trans h1, h2⟩, h3⟩
theorem LMap.isMap {w : World} {l : Nat} {S : List (Int × Nat)} (h : LMap w l S) : ∃ es clock, w.heap[l]? = some (.map es clock) := by
  obtain ⟨D, ⟨es, clock, h1, _⟩, _⟩ := h
  exact ⟨es, clock, h1⟩
theorem LMap.made (w : World) : LMap (w.alloc (.map #[] 0)) w.heap.size [] :=
  ⟨.map [], World.ownsMap_made w _ _ _, rfl, List.nodup_nil, (fun x (h : x ∈ []) => absurd h (by simp)), fun x hx => ⟨by simp [Maps.has], fun h => absurd h (by simp)⟩⟩

theorem LMap.look {w : World} {l : Nat} {S : List (Int × Nat)} (h : LMap w l S) {x : Int × Nat} (hx : SecOk x) :
    (Instr.lookup 45 (.map (some l)) (.agg #[.int .i64 x.1, .int .i64 (x.2 : Int)]) false).run Tryd.prog w = .ok (.bool (decide (x ∈ S))) w := by
  obtain ⟨D, hown, _, _, _, hall⟩ := h
  obtain ⟨v, ps, hrun, hv⟩ := hown.lookup lawSec Tryd.underlying45 (zeroBool w) (zd := .lit (.bool false)) (zp := []) (plainElem_bool Tryd.underlying4 false) (key_sec hx)
  obtain ⟨h1, h2⟩ := hall x hx
  have hb : ∀ {b : Bool} {v : Value} {ps : List MemPlace}, plainElem (H := Unit) Tryd.prog 4 v = some (.lit (.bool b), ps) → v = .bool b := by
    intro b v ps hv
    unfold plainElem at hv
    rw [Tryd.underlying4] at hv
    cases v <;> simp at hv
    rw [hv.1]
  show (Instr.lookup 45 (.map (some l)) (sval x) false).run Tryd.prog w = _
  rw [hrun]
  by_cases c : x ∈ S
  · rw [h2 c] at hv
    rw [hb hv, decide_eq_true c]
  · rw [Maps.atKey_of_not_has (by rw [h1]; exact decide_eq_false c)] at hv
    rw [hb hv, decide_eq_false c]

theorem LMap.add {w : World} {l : Nat} {S : List (Int × Nat)} (h : LMap w l S) {x : Int × Nat} (hx : SecOk x) (hn : x ∉ S) (hs : S.length < 9223372036854775807) :
    ∃ w', (Instr.mapUpdate 45 (.map (some l)) (.agg #[.int .i64 x.1, .int .i64 (x.2 : Int)]) (.bool true)).run Tryd.prog w = .ok () w' ∧ LMap w' l (S ++ [x]) ∧ w.mapTurned w' l := by
  obtain ⟨D, hown, hsz, hnd, hok, hall⟩ := h
  obtain ⟨w', hrun, hown', ht⟩ := hown.store lawSec Tryd.underlying45 (by unfold maxLen; omega) (key_sec hx) (plainElem_bool (H := Unit) Tryd.underlying4 true)
  refine ⟨w', hrun, ⟨_, by rw [List.length_append]; exact hown', ?_, ?_, ?_, fun y hy => ?_⟩, ht⟩
  · rw [Maps.size_put (hown.tidy lawSec), (hall x hx).1, decide_eq_false hn, hsz]; simp
  · rw [List.nodup_append]
    refine ⟨hnd, by simp, fun a ha b hb e => ?_⟩
    simp at hb
    rw [e, hb] at ha
    exact hn ha
  · intro y hy
    rcases List.mem_append.mp hy with hy | hy
    · exact hok y hy
    · simp at hy; rw [hy]; exact hx
  · by_cases c : y = x
    · subst c
      refine ⟨by rw [Maps.has_put_same hown.isMap (skey_key hx)]; simp, fun _ z => Maps.atKey_put_same hown.isMap (skey_key hx) _ _⟩
    · have hne : skey y ≠ skey x := fun e => c (skey_inj hy hx e)
      refine ⟨by rw [Maps.has_put_other hne, (hall y hy).1]; simp [c], fun hm z => ?_⟩
      rw [Maps.atKey_put_other hne]
      refine (hall y hy).2 ?_ z
      rcases List.mem_append.mp hm with hm | hm
      · exact hm
      · simp at hm; exact absurd hm c

theorem LMap.del {w : World} {l : Nat} {S : List (Int × Nat)} (h : LMap w l S) {x : Int × Nat} (hx : x ∈ S) (ty : TypeId) :
    ∃ w', (Builtin.delete_ #[45, 70] ty #[.map (some l), .agg #[.int .i64 x.1, .int .i64 (x.2 : Int)]]).run Tryd.prog w = .ok (.tuple #[]) w' ∧ LMap w' l (S.erase x) ∧ w.mapTurned w' l := by
  obtain ⟨D, hown, hsz, hnd, hok, hall⟩ := h
  have hxo := hok x hx
  obtain ⟨w', hrun, hown', ht⟩ := hown.drop lawSec Tryd.underlying45 (key_sec hxo) ty
  have hlen : (S.erase x).length + 1 = S.length := by
    rw [List.length_erase_of_mem hx]
    have := List.length_pos_of_mem hx
    omega
  have hsz' : Maps.size (D.del (skey x)) = (S.erase x).length := by
    have := Maps.size_del (k := skey x) (hown.tidy lawSec)
    rw [(hall x hxo).1, decide_eq_true hx, hsz] at this
    simp at this
    omega
  refine ⟨w', hrun, ⟨_, by rw [← hsz']; exact own_size hown', hsz', hnd.erase _, fun y hy => hok y (List.mem_of_mem_erase hy), fun y hy => ?_⟩, ht⟩
  by_cases c : y = x
  · subst c
    have hn : y ∉ S.erase y := fun hm => (hnd.mem_erase_iff.1 hm).1 rfl
    refine ⟨by rw [Maps.has_del_same, decide_eq_false hn], fun hm => absurd hm hn⟩
  · have hne : skey y ≠ skey x := fun e => c (skey_inj hy hxo e)
    refine ⟨by rw [Maps.has_del_other hne, (hall y hy).1]; simp [hnd.mem_erase_iff, c], fun hm z => ?_⟩
    rw [Maps.atKey_del_other hne]
    exact (hall y hy).2 (List.mem_of_mem_erase hm) z

end Go.Proofs.YtncadnmoiiiahaaDoor
