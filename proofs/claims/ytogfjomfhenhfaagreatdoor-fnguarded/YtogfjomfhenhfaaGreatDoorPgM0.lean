/-
  Maps from texts, entry by entry: looked up, written, struck from, counted.
-/
import Derived.Test.YtogfjomfhenhfaaGreatDoorPgMath
import Derived.Maps.Keyed
import Derived.Maps.OwnSet
import Derived.StringKeys
import Derived.Carry
import Derived.ChangeMaps5
namespace Go.Proofs.YtogfjomfhenhfaaGreatDoor
open Go Go.RowKit Go.Deep
open Go.ChangeMaps (setBlock)
open Go.MapKept

abbrev SL := List (ByteArray × Value)
/-- The value at a key. -/
def sget : SL → ByteArray → Option Value
  | [], _ => none
  | x :: l, s => if x.1 = s then some x.2 else sget l s
/-- Another value at a key that is there. -/
def sput (l : SL) (s : ByteArray) (v : Value) : SL := l.map fun x => if x.1 = s then (s, v) else x
/-- Without a key. -/
def sdel (l : SL) (s : ByteArray) : SL := l.filter fun x => decide (x.1 ≠ s)
theorem sget_none {l : SL} {s : ByteArray} (h : ∀ x ∈ l, x.1 ≠ s) : sget l s = none := by
  induction l with
  | nil => rfl
  | cons x l ih =>
    rw [sget, if_neg (h x (by simp))]
    exact ih (fun y hy => h y (by simp [hy]))
theorem sget_none_iff {l : SL} {s : ByteArray} : sget l s = none ↔ ∀ x ∈ l, x.1 ≠ s := by
  refine ⟨fun h => ?_, sget_none⟩
  induction l with
  | nil => simp
  | cons x l ih =>
    rw [sget] at h
    by_cases e : x.1 = s
    · rw [if_pos e] at h; cases h
    · rw [if_neg e] at h
      intro y hy
      rcases List.mem_cons.1 hy with rfl | hy
      · exact e
      · exact ih h y hy
theorem sget_some {l : SL} {s : ByteArray} {v : Value} (hd : (l.map (·.1)).Nodup) (h : (s, v) ∈ l) : sget l s = some v := by
  induction l with
  | nil => cases h
  | cons x l ih =>
    rw [sget]
    simp only [List.map_cons, List.nodup_cons] at hd
    rcases List.mem_cons.1 h with rfl | h
    · simp
    · rw [if_neg]
      · exact ih hd.2 h
      · intro e
        exact hd.1 (by rw [e]; exact List.mem_map.2 ⟨(s, v), h, rfl⟩)
theorem sget_mem {l : SL} {s : ByteArray} {v : Value} (h : sget l s = some v) : (s, v) ∈ l := by
  induction l with
  | nil => cases h
  | cons x l ih =>
    rw [sget] at h
    by_cases e : x.1 = s
    · rw [if_pos e] at h
      obtain ⟨x1, x2⟩ := x
      simp at e h
      subst e h
      simp
    · rw [if_neg e] at h
      exact List.mem_cons_of_mem _ (ih h)
/-- A block is a map with these entries. -/
structure SMap (b : Nat) (l : SL) (w : World) : Prop where
  ex : ∃ es clock, w.heap[b]? = some (.map es clock) ∧ es.toList.map (fun e => (e.key, e.val)) = l.map (fun x => (Value.string x.1, x.2))
  nd : (l.map (·.1)).Nodup
  sz : ∀ x ∈ l, x.1.size ≤ maxLen
theorem SMap.lt {b : Nat} {l : SL} {w : World} (h : SMap b l w) : b < w.heap.size := by
  obtain ⟨es, c, h1, _⟩ := h.ex
  exact (Array.getElem?_eq_some_iff.1 h1).1
theorem SMap.block {b : Nat} {l : SL} {w w' : World} (h : SMap b l w) (e : w'.heap[b]? = w.heap[b]?) : SMap b l w' := by
  obtain ⟨es, c, h1, h2⟩ := h.ex
  exact ⟨⟨es, c, e.trans h1, h2⟩, h.nd, h.sz⟩
theorem SMap.below {b : Nat} {l : SL} {w w' : World} (h : SMap b l w) (hb : Below w.heap.size w w') : SMap b l w' := h.block (hb.block _ h.lt)
theorem skeyed : Maps.Keyed Tryz.prog 9 := Maps.string_keyed Tryz.underlying9
theorem skey {s : ByteArray} (h : s.size ≤ maxLen) : keyOf Tryz.prog 9 (.string s) = some (.string s.data.toList) := WideMaps.keyOf_string_mk Tryz.underlying9 h
/-- The entry at a place. -/
theorem ents_at {es : Array MapEntry} {l : SL} (h : es.toList.map (fun e => (e.key, e.val)) = l.map (fun x => (Value.string x.1, x.2))) {j : Nat} {e : MapEntry} (hj : es.toList[j]? = some e) : ∃ x, l[j]? = some x ∧ e.key = .string x.1 ∧ e.val = x.2 := by
  have h1 := congrArg (fun q => q[j]?) h
  simp only [List.getElem?_map, hj, Option.map_some] at h1
  cases hx : l[j]? with
  | none => rw [hx] at h1; cases h1
  | some x =>
    rw [hx] at h1
    simp at h1
    exact ⟨x, rfl, h1.1, h1.2⟩
theorem ents_key {es : Array MapEntry} {l : SL} (h : es.toList.map (fun e => (e.key, e.val)) = l.map (fun x => (Value.string x.1, x.2))) (hz : ∀ x ∈ l, x.1.size ≤ maxLen) : ∀ e ∈ es.toList, ∃ k, keyOf Tryz.prog 9 e.key = some k := by
  intro e he
  obtain ⟨j, hj⟩ := List.mem_iff_getElem?.1 he
  obtain ⟨x, hx, h1, _⟩ := ents_at h hj
  rw [h1]
  exact ⟨_, skey (hz x (List.mem_iff_getElem?.2 ⟨j, hx⟩))⟩
theorem SMap.find {b : Nat} {l : SL} {w : World} (h : SMap b l w) {es : Array MapEntry} (he : es.toList.map (fun e => (e.key, e.val)) = l.map (fun x => (Value.string x.1, x.2))) {s : ByteArray} (hs : s.size ≤ maxLen) :
    ((Instr.findKey 9 (.string s) es.toList).run Tryz.prog w = .ok none w ∧ sget l s = none) ∨
    ∃ j v, (Instr.findKey 9 (.string s) es.toList).run Tryz.prog w = .ok (some (j, v)) w ∧ l[j]? = some (s, v) ∧ sget l s = some v := by
  rcases skeyed.find w (skey hs) es.toList (ents_key he h.sz) with ⟨h1, h2⟩ | ⟨j, e, h1, h2, h3⟩
  · refine Or.inl ⟨h1, sget_none fun x hx hxs => ?_⟩
    obtain ⟨j, hj⟩ := List.mem_iff_getElem?.1 hx
    have h4 := congrArg (fun q => q[j]?) he
    simp only [List.getElem?_map, hj, Option.map_some] at h4
    cases hy : es.toList[j]? with
    | none => rw [hy] at h4; cases h4
    | some e =>
      rw [hy] at h4
      simp at h4
      exact h2 e (List.mem_iff_getElem?.2 ⟨j, hy⟩) (by rw [h4.1, hxs])
  · obtain ⟨x, hx, h4, h5⟩ := ents_at he h2
    rw [h3] at h4
    have h6 : s = x.1 := by simpa using h4
    obtain ⟨x1, x2⟩ := x
    simp at h6 h5
    subst h6
    refine Or.inr ⟨j, e.val, h1, by rw [hx, h5], sget_some h.nd (by rw [h5]; exact List.mem_iff_getElem?.2 ⟨j, hx⟩)⟩
/-- What a look-up tells. -/
theorem SMap.look {T E : TypeId} (hT : Tryz.prog.underlying T = some (.map 9 E)) {z : Value} (hz : ∀ w, (zeroValue E).run Tryz.prog w = .ok z w) {b : Nat} {l : SL} {w : World} (h : SMap b l w) {s : ByteArray} (hs : s.size ≤ maxLen) (ok : Bool) :
    (Instr.lookup T (.map (some b)) (.string s) ok).run Tryz.prog w = .ok (if ok then .tuple #[(sget l s).getD z, .bool (sget l s).isSome] else (sget l s).getD z) w := by
  obtain ⟨es, c, h1, h2⟩ := h.ex
  rcases h.find h2 hs with ⟨h3, h4⟩ | ⟨j, v, h3, _, h4⟩
  · simp only [Instr.lookup, Sem.run_bind, run_underlying hT, Result.andThen, MapKept.run_getObj_map h1, Sem.run_pure, skeyed.check w _ (skey hs), h3, h4, hz]
    rfl
  · simp only [Instr.lookup, Sem.run_bind, run_underlying hT, Result.andThen, MapKept.run_getObj_map h1, Sem.run_pure, skeyed.check w _ (skey hs), h3, h4]
    rfl
theorem sput_miss {l : SL} {s : ByteArray} (v : Value) (h : sget l s = none) : sput l s v = l := by
  unfold sput
  refine (List.map_congr_left (fun x hx => ?_)).trans (List.map_id _)
  rw [if_neg (sget_none_iff.1 h x hx)]
  rfl
/-- A key that is new. -/
theorem SMap.put_new {T E : TypeId} (hT : Tryz.prog.underlying T = some (.map 9 E)) {b : Nat} {l : SL} {w : World} (h : SMap b l w) {s : ByteArray} (hs : s.size ≤ maxLen) (hn : sget l s = none) (v : Value) :
    ∃ w', (Instr.mapUpdate T (.map (some b)) (.string s) v).run Tryz.prog w = .ok () w' ∧ SMap b (l ++ [(s, v)]) w' ∧ Only b w w' := by
  obtain ⟨es, c, h1, h2⟩ := h.ex
  rcases h.find h2 hs with ⟨h3, h4⟩ | ⟨j, v', h3, _, h4⟩
  · refine ⟨setBlock w b (.map (es.push ⟨.string s, v, c⟩) (c + 1)), ?_, ⟨⟨_, _, Go.ChangeMaps.heap_setBlock_same h1 _, ?_⟩, ?_, ?_⟩, ⟨rfl, rfl, rfl, by simp [setBlock], fun k _ hk => Go.ChangeMaps.heap_setBlock_other h1 _ hk⟩⟩
    · simp only [Instr.mapUpdate, Sem.run_bind, run_underlying hT, Result.andThen, MapKept.run_getObj_map h1, skeyed.check w _ (skey hs), h3, MapKept.run_setObj_map _ h1]
      rfl
    · simp [h2]
    · rw [List.map_append, List.nodup_append]
      refine ⟨h.nd, by simp, fun a ha b' hb' e => ?_⟩
      obtain ⟨x, hx, rfl⟩ := List.mem_map.1 ha
      simp at hb'
      exact sget_none_iff.1 hn x hx (e.trans hb')
    · intro x hx
      rcases List.mem_append.1 hx with hx | hx
      · exact h.sz x hx
      · simp at hx; subst hx; exact hs
  · rw [hn] at h4; cases h4
/-- A key that is there. -/
theorem SMap.put_old {T E : TypeId} (hT : Tryz.prog.underlying T = some (.map 9 E)) {b : Nat} {l : SL} {w : World} (h : SMap b l w) {s : ByteArray} (hs : s.size ≤ maxLen) {u : Value} (hn : sget l s = some u) (v : Value) :
    ∃ w', (Instr.mapUpdate T (.map (some b)) (.string s) v).run Tryz.prog w = .ok () w' ∧ SMap b (sput l s v) w' ∧ Only b w w' := by
  obtain ⟨es, c, h1, h2⟩ := h.ex
  rcases h.find h2 hs with ⟨h3, h4⟩ | ⟨j, v', h3, h5, h4⟩
  · rw [hn] at h4; cases h4
  · have hek : ∃ e, es[j]? = some e ∧ e.key = .string s := by
      have h6 := congrArg (fun q => q[j]?) h2
      simp only [List.getElem?_map, h5, Option.map_some] at h6
      cases hy : es.toList[j]? with
      | none => rw [hy] at h6; cases h6
      | some e =>
        rw [hy] at h6
        simp at h6
        exact ⟨e, by rw [← Array.getElem?_toList]; exact hy, h6.1⟩
    obtain ⟨e, he, hk⟩ := hek
    refine ⟨setBlock w b (.map (es.modify j fun e => { e with key := .string s, val := v }) c), ?_, ⟨⟨_, _, Go.ChangeMaps.heap_setBlock_same h1 _, ?_⟩, ?_, ?_⟩, ⟨rfl, rfl, rfl, by simp [setBlock], fun k _ hk => Go.ChangeMaps.heap_setBlock_other h1 _ hk⟩⟩
    · simp only [Instr.mapUpdate, Sem.run_bind, run_underlying hT, Result.andThen, MapKept.run_getObj_map h1, skeyed.check w _ (skey hs), h3, he, Option.map_some, Option.getD_some, hk, skeyed.stays w (skey hs), MapKept.run_setObj_map _ h1]
      rfl
    · apply List.ext_getElem?
      intro i
      have h7 := congrArg (fun q => q[i]?) h2
      simp only [List.getElem?_map] at h7
      unfold sput
      simp only [List.getElem?_map, Array.toList_modify, List.getElem?_modify]
      by_cases e1 : i = j
      · subst e1
        rw [h5]
        have : es.toList[i]? = some e := by rw [Array.getElem?_toList]; exact he
        rw [this]
        simp
      · cases hy : l[i]? with
        | none => rw [hy] at h7; simp at h7; simp [Ne.symm e1, h7]
        | some x =>
          rw [hy] at h7
          have hx1 : x.1 ≠ s := by
            intro e2
            have hi : i < (l.map (·.1)).length := by simpa using (List.getElem?_eq_some_iff.1 hy).1
            have hj : j < (l.map (·.1)).length := by simpa using (List.getElem?_eq_some_iff.1 h5).1
            have a1 := (List.getElem?_eq_some_iff.1 hy).2
            have a2 := (List.getElem?_eq_some_iff.1 h5).2
            have hp := List.pairwise_iff_getElem.1 h.nd
            rcases Nat.lt_or_gt_of_ne e1 with hlt | hlt
            · exact hp i j hi hj hlt (by simp [a1, a2, e2])
            · exact hp j i hj hi hlt (by simp [a1, a2, e2])
          cases hz : es.toList[i]? with
          | none => rw [hz] at h7; cases h7
          | some e' =>
            rw [hz] at h7
            simp at h7
            simp [Ne.symm e1, hx1, h7]
    · have : (sput l s v).map (·.1) = l.map (·.1) := by
        unfold sput
        rw [List.map_map]
        refine List.map_congr_left (fun x _ => ?_)
        by_cases e1 : x.1 = s <;> simp [e1]
      rw [this]; exact h.nd
    · intro x hx
      unfold sput at hx
      obtain ⟨y, hy, rfl⟩ := List.mem_map.1 hx
      by_cases e1 : y.1 = s
      · rw [if_pos e1]; exact hs
      · rw [if_neg e1]; exact h.sz y hy
theorem SMap.len {T E : TypeId} (hT : Tryz.prog.underlying T = some (.map 9 E)) {b : Nat} {l : SL} {w : World} (h : SMap b l w) (ty : TypeId) : (Builtin.len_ #[T] ty #[.map (some b)]).run Tryz.prog w = .ok (.int .i64 (l.length : Nat)) w := by
  obtain ⟨es, c, h1, h2⟩ := h.ex
  have h3 : es.size = l.length := by
    have := congrArg List.length h2
    simpa using this
  simp [Builtin.len_, run_underlying hT, MapKept.run_getObj_map h1, goInt, Result.andThen, h3]
theorem smap_made (w : World) : SMap w.heap.size [] (w.alloc (.map #[] 0)) := ⟨⟨#[], 0, blk_alloc_new _ _, rfl⟩, by simp, by simp⟩
end Go.Proofs.YtogfjomfhenhfaaGreatDoor
