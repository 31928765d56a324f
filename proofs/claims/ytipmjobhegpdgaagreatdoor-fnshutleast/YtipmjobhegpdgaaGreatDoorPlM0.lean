/-
  A map from pairs of places, entry by entry: looked up, written, ranged over.
-/
import Derived.Test.YtipmjobhegpdgaaGreatDoorPlMath
import Derived.Maps.Keyed
import Derived.Maps.RangeRun
import Derived.DeepKeys4
import Derived.Carry
import Derived.ChangeMaps5
namespace Go.Proofs.YtipmjobhegpdgaaGreatDoor
open Go Go.RowKit Go.Deep
open Go.ChangeMaps (setBlock)
open Go.MapKept

/-- A pair as a value. -/
abbrev kV (k : Int × Int) : Value := .agg #[.int .i64 k.1, .int .i64 k.2]
def KIn (k : Int × Int) : Prop := (-9223372036854775808 ≤ k.1 ∧ k.1 ≤ 9223372036854775807) ∧ (-9223372036854775808 ≤ k.2 ∧ k.2 ≤ 9223372036854775807)
theorem plaidOut : laidOutB Tryz.prog = true := by kernel_rfl
theorem pairRow : (112 : TypeId) < Tryz.prog.types.size := of_decide_eq_true (by kernel_rfl)
theorem pairCells : Tryz.prog.cellsOf 112 = 2 := by kernel_rfl
theorem pairWide : (match Tryz.prog.underlying 112 with | some (.array _ _) | some (.struct _) => true | _ => false) = true := by rw [Tryz.underlying112]
set_option maxRecDepth 100000 in
theorem pairKeyed : Maps.Keyed Tryz.prog 112 := Maps.Keyed.of_law (deep_law_laid plaidOut (m := 2) (by omega) pairRow (by kernel_rfl) pairWide)
theorem pairType : Tryz.prog.keyType 112 = true := by kernel_rfl
theorem pairFormed (a b : Value) : (Value.agg #[a, b]).formed Tryz.prog 112 = true := by simp [Value.formed, Tryz.underlying112, pairCells]
theorem int1 : Tryz.prog.cellsOf 2 = 1 := by kernel_rfl
theorem typesSize : Tryz.prog.types.size = 225 := by kernel_rfl
theorem wf64 {z : Int} (h1 : -9223372036854775808 ≤ z) (h2 : z ≤ 9223372036854775807) : (Lit.int .i64 z).wf = true := by
  have e1 : IntKind.i64.min = -9223372036854775808 := by decide
  have e2 : IntKind.i64.max = 9223372036854775807 := by decide
  simp [Lit.wf]
  omega
theorem pairLits (d : Nat) (k : Int × Int) (h : KIn k) : Tryz.prog.keyLits (d + 2) 112 [.int .i64 k.1, .int .i64 k.2] = some [.int .i64 k.1, .int .i64 k.2] := by
  have w1 := wf64 h.1.1 h.1.2
  have w2 := wf64 h.2.1 h.2.2
  simp [Program.keyLits, Tryz.underlying112, Tryz.underlying2, pairCells, int1, w1, w2]
theorem pairKey (k : Int × Int) (h : KIn k) : ∃ l, keyOf Tryz.prog 112 (kV k) = some l := by
  obtain ⟨d, hd⟩ : ∃ d, Tryz.prog.types.size + 1 = d + 2 := ⟨Tryz.prog.types.size - 1, by rw [typesSize]⟩
  simp only [keyOf, Tryz.underlying112, pairType, pairFormed, Bool.and_self, if_true, hd, Value.cells, pairLits d k h]
  exact ⟨_, rfl⟩
theorem kV_inj {a b : Int × Int} (h : kV a = kV b) : a = b := by
  simp at h
  exact Prod.ext h.1 h.2
def ent (kf : Nat → Int × Int) (vf : Nat → Value) (j : Nat) : MapEntry := ⟨kV (kf j), vf j, j⟩
def LEs (cnt : Nat) (kf : Nat → Int × Int) (vf : Nat → Value) : Array MapEntry := ((List.range cnt).map (ent kf vf)).toArray
/-- A block is a map: its entries in the order in which they came. -/
structure LMap (b cnt : Nat) (kf : Nat → Int × Int) (vf : Nat → Value) (w : World) : Prop where
  heap : w.heap[b]? = some (.map (LEs cnt kf vf) cnt)
  rng : ∀ j, j < cnt → KIn (kf j)
  inj : ∀ i j, i < cnt → j < cnt → kf i = kf j → i = j
theorem LEs.at_ {cnt : Nat} {kf : Nat → Int × Int} {vf : Nat → Value} {j : Nat} (h : j < cnt) : (LEs cnt kf vf).toList[j]? = some (ent kf vf j) := by simp [LEs, h]
theorem LEs.lt {cnt : Nat} {kf : Nat → Int × Int} {vf : Nat → Value} {j : Nat} {e : MapEntry} (h : (LEs cnt kf vf).toList[j]? = some e) : j < cnt ∧ e = ent kf vf j := by
  have hj : j < (LEs cnt kf vf).toList.length := by
    rcases Nat.lt_or_ge j (LEs cnt kf vf).toList.length with h1 | h1
    · exact h1
    · rw [List.getElem?_eq_none h1] at h; cases h
  have hc : j < cnt := by simpa [LEs] using hj
  rw [LEs.at_ hc] at h
  exact ⟨hc, (Option.some.inj h).symm⟩
theorem LEs.mem {cnt : Nat} {kf : Nat → Int × Int} {vf : Nat → Value} {e : MapEntry} : e ∈ (LEs cnt kf vf).toList ↔ ∃ j, j < cnt ∧ e = ent kf vf j := by
  simp [LEs]
  exact ⟨fun ⟨j, hj, e⟩ => ⟨j, hj, e.symm⟩, fun ⟨j, hj, e⟩ => ⟨j, hj, e.symm⟩⟩
theorem LMap.lt {b cnt : Nat} {kf : Nat → Int × Int} {vf : Nat → Value} {w : World} (h : LMap b cnt kf vf w) : b < w.heap.size := (Array.getElem?_eq_some_iff.1 h.heap).1
theorem LMap.of_block {b cnt : Nat} {kf : Nat → Int × Int} {vf : Nat → Value} {w w' : World} (h : LMap b cnt kf vf w) (e : w'.heap[b]? = w.heap[b]?) : LMap b cnt kf vf w' := ⟨e.trans h.heap, h.rng, h.inj⟩
theorem LMap.below {b cnt : Nat} {kf : Nat → Int × Int} {vf : Nat → Value} {w w' : World} (h : LMap b cnt kf vf w) (hb : Below w.heap.size w w') : LMap b cnt kf vf w' := h.of_block (hb.block _ h.lt)
abbrev zeroBu : Value := .agg #[.slice none 0 0, .bool false, .int .i64 0]
theorem zeroBundle (w : World) : (zeroValue 115).run Tryz.prog w = .ok zeroBu w := by kernel_rfl
theorem LMap.find {b cnt : Nat} {kf : Nat → Int × Int} {vf : Nat → Value} {w : World} (h : LMap b cnt kf vf w) {k : Int × Int} (hk : KIn k) :
    ((Instr.findKey 112 (kV k) (LEs cnt kf vf).toList).run Tryz.prog w = .ok none w ∧ ∀ j, j < cnt → kf j ≠ k) ∨
    ∃ j, j < cnt ∧ kf j = k ∧ (Instr.findKey 112 (kV k) (LEs cnt kf vf).toList).run Tryz.prog w = .ok (some (j, vf j)) w := by
  obtain ⟨l, hl⟩ := pairKey k hk
  have hes : ∀ e ∈ (LEs cnt kf vf).toList, ∃ l, keyOf Tryz.prog 112 e.key = some l := fun e he => by
    obtain ⟨j, hj, rfl⟩ := LEs.mem.1 he
    exact pairKey _ (h.rng j hj)
  rcases pairKeyed.find w hl _ hes with ⟨h1, h2⟩ | ⟨j, e, h1, h2, h3⟩
  · exact Or.inl ⟨h1, fun j hj e => h2 _ (LEs.mem.2 ⟨j, hj, rfl⟩) (by show kV (kf j) = kV k; rw [e])⟩
  · obtain ⟨hj, rfl⟩ := LEs.lt h2
    exact Or.inr ⟨j, hj, kV_inj h3, h1⟩
set_option maxRecDepth 100000 in
theorem LMap.look_hit {b cnt : Nat} {kf : Nat → Int × Int} {vf : Nat → Value} {w : World} (h : LMap b cnt kf vf w) {j : Nat} (hj : j < cnt) :
    (Instr.lookup 79 (.map (some b)) (kV (kf j)) false).run Tryz.prog w = .ok (vf j) w := by
  obtain ⟨l, hl⟩ := pairKey _ (h.rng j hj)
  rcases h.find (h.rng j hj) with ⟨_, h2⟩ | ⟨i, hi, e, h1⟩
  · exact absurd rfl (h2 j hj)
  · obtain rfl := h.inj i j hi hj e
    simp only [Instr.lookup, Sem.run_bind, run_underlying Tryz.underlying79, Result.andThen, MapKept.run_getObj_map h.heap, Sem.run_pure, pairKeyed.check w _ hl, h1]
    rfl
set_option maxRecDepth 100000 in
theorem LMap.look_miss {b cnt : Nat} {kf : Nat → Int × Int} {vf : Nat → Value} {w : World} (h : LMap b cnt kf vf w) {k : Int × Int} (hk : KIn k) (hno : ∀ j, j < cnt → kf j ≠ k) :
    (Instr.lookup 79 (.map (some b)) (kV k) false).run Tryz.prog w = .ok zeroBu w := by
  obtain ⟨l, hl⟩ := pairKey _ hk
  rcases h.find hk with ⟨h1, _⟩ | ⟨i, hi, e, _⟩
  · simp only [Instr.lookup, Sem.run_bind, run_underlying Tryz.underlying79, Result.andThen, MapKept.run_getObj_map h.heap, Sem.run_pure, pairKeyed.check w _ hl, h1, zeroBundle]
    rfl
  · exact absurd e (hno i hi)
def updV {α : Type} (f : Nat → α) (i : Nat) (x : α) : Nat → α := fun j => if j = i then x else f j
theorem LEs.put {cnt : Nat} {kf : Nat → Int × Int} {vf : Nat → Value} {j : Nat} (v : Value) : (LEs cnt kf vf).modify j (fun e => { e with key := kV (kf j), val := v }) = LEs cnt kf (updV vf j v) := by
  apply Array.toList_inj.1
  apply List.ext_getElem?
  intro i
  simp [LEs]
  by_cases hi : i < cnt
  · simp [hi]
    by_cases e : j = i
    · subst e; simp [ent, updV]
    · simp [e, Ne.symm e, ent, updV]
  · simp [hi]
theorem LEs.push {cnt : Nat} {kf : Nat → Int × Int} {vf : Nat → Value} (k : Int × Int) (v : Value) : (LEs cnt kf vf).push ⟨kV k, v, cnt⟩ = LEs (cnt + 1) (updV kf cnt k) (updV vf cnt v) := by
  apply Array.toList_inj.1
  simp [LEs, List.range_succ]
  refine ⟨fun a ha => ?_, ?_⟩
  · have : a ≠ cnt := by omega
    simp [ent, updV, this]
  · simp [ent, updV]
set_option maxRecDepth 100000 in
theorem LMap.put_hit {b cnt : Nat} {kf : Nat → Int × Int} {vf : Nat → Value} {w : World} (h : LMap b cnt kf vf w) {j : Nat} (hj : j < cnt) (v : Value) :
    (Instr.mapUpdate 79 (.map (some b)) (kV (kf j)) v).run Tryz.prog w = .ok () (setBlock w b (.map (LEs cnt kf (updV vf j v)) cnt)) := by
  obtain ⟨l, hl⟩ := pairKey _ (h.rng j hj)
  rcases h.find (h.rng j hj) with ⟨_, h2⟩ | ⟨i, hi, e, h1⟩
  · exact absurd rfl (h2 j hj)
  · obtain rfl := h.inj i j hi hj e
    have h3 : (LEs cnt kf vf)[i]? = some (ent kf vf i) := by rw [← Array.getElem?_toList]; exact LEs.at_ hj
    simp only [Instr.mapUpdate, Sem.run_bind, run_underlying Tryz.underlying79, Result.andThen, MapKept.run_getObj_map h.heap, pairKeyed.check w _ hl, h1, h3, Option.map_some, Option.getD_some, ent, pairKeyed.stays w hl, MapKept.run_setObj_map _ h.heap]
    have h4 := LEs.put (cnt := cnt) (kf := kf) (vf := vf) (j := i) v
    simp only [h4]
    rfl
set_option maxRecDepth 100000 in
theorem LMap.put_miss {b cnt : Nat} {kf : Nat → Int × Int} {vf : Nat → Value} {w : World} (h : LMap b cnt kf vf w) {k : Int × Int} (hk : KIn k) (hno : ∀ j, j < cnt → kf j ≠ k) (v : Value) :
    (Instr.mapUpdate 79 (.map (some b)) (kV k) v).run Tryz.prog w = .ok () (setBlock w b (.map (LEs (cnt + 1) (updV kf cnt k) (updV vf cnt v)) (cnt + 1))) := by
  obtain ⟨l, hl⟩ := pairKey _ hk
  rcases h.find hk with ⟨h1, _⟩ | ⟨i, hi, e, _⟩
  · simp only [Instr.mapUpdate, Sem.run_bind, run_underlying Tryz.underlying79, Result.andThen, MapKept.run_getObj_map h.heap, pairKeyed.check w _ hl, h1, MapKept.run_setObj_map _ h.heap, LEs.push]
    rfl
  · exact absurd e (hno i hi)
/-- Only one block has turned. -/
theorem setBlock_only {b cnt : Nat} {kf : Nat → Int × Int} {vf : Nat → Value} {w : World} (h : LMap b cnt kf vf w) (o : Obj) : Only b w (setBlock w b o) :=
  ⟨rfl, rfl, rfl, by simp [setBlock], fun k _ hk => Go.ChangeMaps.heap_setBlock_other h.heap o hk⟩
theorem LMap.hit {b cnt : Nat} {kf : Nat → Int × Int} {vf : Nat → Value} {w : World} (h : LMap b cnt kf vf w) (vf' : Nat → Value) : LMap b cnt kf vf' (setBlock w b (.map (LEs cnt kf vf') cnt)) :=
  ⟨Go.ChangeMaps.heap_setBlock_same h.heap _, h.rng, h.inj⟩
theorem LMap.miss {b cnt : Nat} {kf : Nat → Int × Int} {vf : Nat → Value} {w : World} (h : LMap b cnt kf vf w) {k : Int × Int} (hk : KIn k) (hno : ∀ j, j < cnt → kf j ≠ k) (v : Value) :
    LMap b (cnt + 1) (updV kf cnt k) (updV vf cnt v) (setBlock w b (.map (LEs (cnt + 1) (updV kf cnt k) (updV vf cnt v)) (cnt + 1))) := by
  refine ⟨Go.ChangeMaps.heap_setBlock_same h.heap _, fun j hj => ?_, fun i j hi hj e => ?_⟩
  · unfold updV
    by_cases ej : j = cnt
    · rw [if_pos ej]; exact hk
    · rw [if_neg ej]; exact h.rng j (by omega)
  · unfold updV at e
    by_cases ei : i = cnt
    · by_cases ej : j = cnt
      · omega
      · rw [if_pos ei, if_neg ej] at e; exact absurd e.symm (hno j (by omega))
    · by_cases ej : j = cnt
      · rw [if_neg ei, if_pos ej] at e; exact absurd e (hno i (by omega))
      · rw [if_neg ei, if_neg ej] at e; exact h.inj i j (by omega) (by omega) e
end Go.Proofs.YtipmjobhegpdgaaGreatDoor
