/-
  Lists of numbers that a call owns and that may begin within their blocks: appended to, cut at their head, changed there.
-/
import Derived.Test.YtnbnfifgajfomaaDoorNtMem
import Derived.Laws.AppendOwn
import Derived.Maps.AppendAt
namespace Go.Proofs.YtnbnfifgajfomaaDoor
open Go.RowKit Go.Deep

/-- A list of numbers that a call owns: it may begin within its block. -/
def OwnQ (B : Nat) (v : Value) (xs : List Int) (W : World) : Prop :=
  (v = .slice none 0 0 ∧ xs = []) ∨ ∃ g o c m F, v = .slice (some ⟨g, o, none⟩) xs.length c ∧ B ≤ g ∧ xs.length ≤ c ∧ o + c ≤ m ∧ W.rowIs g 2 m F ∧ ∀ j, j < xs.length → F (o + j) = .int .i64 (xs.getD j 0)
theorem OwnQ.nil (B : Nat) (W : World) : OwnQ B (.slice none 0 0) [] W := Or.inl ⟨rfl, rfl⟩
theorem OwnQ.shape {B : Nat} {v : Value} {xs : List Int} {W : World} (h : OwnQ B v xs W) : ∃ a c, v = .slice a xs.length c ∧ xs.length ≤ c := by
  rcases h with ⟨rfl, rfl⟩ | ⟨g, o, c, m, F, rfl, h1, h2, _⟩
  · exact ⟨none, 0, rfl, Nat.le_refl _⟩
  · exact ⟨_, _, rfl, h2⟩
theorem OwnQ.lt {B : Nat} {v : Value} {xs : List Int} {W : World} (h : OwnQ B v xs W) {k : Nat} (hk : v.ownBlock = some k) : B ≤ k ∧ k < W.heap.size := by
  rcases h with ⟨rfl, rfl⟩ | ⟨g, o, c, m, F, rfl, h1, h2, h3, h4, h5⟩
  · cases hk
  · cases hk; exact ⟨h1, h4.lt⟩
theorem OwnQ.same {B : Nat} {v : Value} {xs : List Int} {W W' : World} (h : OwnQ B v xs W) (hb : ∀ k, v.ownBlock = some k → k < W.heap.size → W'.heap[k]? = W.heap[k]?) : OwnQ B v xs W' := by
  rcases h with h | ⟨g, o, c, m, F, rfl, h1, h2, h3, h4, h5⟩
  · exact Or.inl h
  · exact Or.inr ⟨g, o, c, m, F, rfl, h1, h2, h3, h4.of_block (hb g rfl h4.lt), h5⟩
theorem OwnQ.below {B : Nat} {v : Value} {xs : List Int} {W W' : World} (h : OwnQ B v xs W) (hb : Below W.heap.size W W') : OwnQ B v xs W' := h.same (fun k _ hk => hb.block k hk)
theorem OwnQ.low {B B' : Nat} {v : Value} {xs : List Int} {W : World} (h : OwnQ B v xs W) (hb : B' ≤ B) : OwnQ B' v xs W := by
  rcases h with h | ⟨g, o, c, m, F, rfl, h1, h⟩
  · exact Or.inl h
  · exact Or.inr ⟨g, o, c, m, F, rfl, Nat.le_trans hb h1, h⟩
/-- It lies elsewhere than a row of another type. -/
theorem OwnQ.ne {B : Nat} {v : Value} {xs : List Int} {W : World} {x n : Nat} {T : TypeId} {F : Nat → Value} (h : OwnQ B v xs W) (hr : W.rowIs x T n F) (hT : 2 ≠ T) : v.ownBlock ≠ some x := by
  intro hk
  rcases h with ⟨rfl, rfl⟩ | ⟨g, o, c, m, G, rfl, h1, h2, h3, h4, h5⟩
  · cases hk
  · cases hk
    obtain ⟨c1, q1, _⟩ := h4
    obtain ⟨c2, q2, _⟩ := hr
    rw [q1] at q2
    simp at q2
    exact hT q2.2
/-- One that has items. -/
theorem OwnQ.pos {B : Nat} {v : Value} {y : Int} {xs : List Int} {W : World} (h : OwnQ B v (y :: xs) W) :
    ∃ g o c m F, v = .slice (some ⟨g, o, none⟩) (xs.length + 1) (c + 1) ∧ B ≤ g ∧ xs.length ≤ c ∧ o + 1 + c ≤ m ∧ W.rowIs g 2 m F ∧ F o = .int .i64 y ∧ ∀ j, j < xs.length → F (o + 1 + j) = .int .i64 (xs.getD j 0) := by
  rcases h with ⟨_, h⟩ | ⟨g, o, c, m, F, rfl, h1, h2, h3, h4, h5⟩
  · cases h
  · simp at h2 h5
    obtain ⟨c, rfl⟩ : ∃ d, c = d + 1 := ⟨c - 1, by omega⟩
    refine ⟨g, o, c, m, F, by simp, h1, by omega, by omega, h4, ?_, fun j hj => ?_⟩
    · have := h5 0 (by omega); simpa using this
    · have := h5 (j + 1) (by omega)
      rw [show o + 1 + j = o + (j + 1) by omega]
      simpa using this
/-- Its tail. -/
theorem ownQ_tail {B g o c m : Nat} {F : Nat → Value} {xs : List Int} {W : World} (h1 : B ≤ g) (h2 : xs.length ≤ c) (h3 : o + 1 + c ≤ m) (h4 : W.rowIs g 2 m F) (h5 : ∀ j, j < xs.length → F (o + 1 + j) = .int .i64 (xs.getD j 0)) : OwnQ B (.slice (some ⟨g, o + 1, none⟩) xs.length c) xs W :=
  Or.inr ⟨g, o + 1, c, m, F, rfl, h1, h2, h3, h4, h5⟩
/-- Its head, written. -/
theorem ownQ_head {B g o c m : Nat} {F : Nat → Value} {xs : List Int} {W : World} (z : Int) (h1 : B ≤ g) (h2 : xs.length ≤ c) (h3 : o + 1 + c ≤ m) (h4 : W.rowIs g 2 m F) (h5 : ∀ j, j < xs.length → F (o + 1 + j) = .int .i64 (xs.getD j 0)) : OwnQ B (.slice (some ⟨g, o, none⟩) (xs.length + 1) (c + 1)) (z :: xs) (W.setCell ⟨g, o, none⟩ (.int .i64 z)) := by
  refine Or.inr ⟨g, o, c + 1, m, _, by simp, h1, by simp; omega, by omega, h4.set o _, fun j hj => ?_⟩
  cases j with
  | zero => simp
  | succ j =>
    have h6 := h5 j (by simp at hj; omega)
    rw [show o + 1 + j = o + (j + 1) by omega] at h6
    simp only [show o + (j + 1) ≠ o by omega, if_false]
    rw [h6]; simp
theorem put_one {α : Type} (l : List α) (k : Nat) (x : α) (h : k < l.length) : l.take k ++ [x] ++ l.drop (k + 1) = l.set k x := by
  rw [List.set_eq_take_append_cons_drop, if_pos h]; simp
section
variable {P : Program} (w : World)
theorem run_append_q (t ty : TypeId) (i : TypeInfo) (ht : P.underlying t = some (.slice 2)) (hi : P.info? 2 = some i) (hz : i.zero = some (.int .i64 0)) (hs : i.size = 1) (hb : i.bytes = 8)
    {B : Nat} {v : Value} {xs : List Int} (h : OwnQ B v xs w) (hl : xs.length ≤ 1048576) (hB : B ≤ w.heap.size) (ad : Addr) (c : Nat) (x : Int) (hx : w.cell? ad = some (.int .i64 x)) :
    ∃ v' w', (Builtin.append_ #[t, t] ty #[v, .slice (some ad) 1 c]).run P w = .ok v' w' ∧ OwnQ B v' (xs ++ [x]) w' ∧ w.grownBy w' v.ownBlock ∧ (v'.ownBlock = v.ownBlock ∨ v'.ownBlock = some w.heap.size) := by
  have hnews : ∀ j u, ([Value.int .i64 x])[j]? = some u → w.cell? (ad.add j) = some u := by
    intro j u hj
    cases j with
    | zero =>
      simp at hj
      subst hj
      obtain ⟨b, o, s⟩ := ad
      cases s <;> simpa [Addr.add] using hx
    | succ j => simp at hj
  have new : ∀ old, (w.drew.alloc (.cells ((xs.map (Value.int .i64)).toArray ++ [Value.int .i64 x].toArray ++ Builtin.zeroCells (Value.int .i64 0).cells (grownCap w (xs.length + 1) old 2 - (xs.length + 1))) 2)).heap.size = w.heap.size + 1 ∧ OwnQ B (.slice (some ⟨w.heap.size, 0, none⟩) (xs.length + 1) (grownCap w (xs.length + 1) old 2)) (xs ++ [x]) (w.drew.alloc (.cells ((xs.map (Value.int .i64)).toArray ++ [Value.int .i64 x].toArray ++ Builtin.zeroCells (Value.int .i64 0).cells (grownCap w (xs.length + 1) old 2 - (xs.length + 1))) 2)) := by
    intro old
    have hge := grownCap_ge w (xs.length + 1) old 2
    refine ⟨by simp, Or.inr ⟨w.heap.size, 0, grownCap w (xs.length + 1) old 2, grownCap w (xs.length + 1) old 2, fun j => (((xs.map (Value.int .i64)).toArray ++ [Value.int .i64 x].toArray ++ Builtin.zeroCells (Value.int .i64 0).cells (grownCap w (xs.length + 1) old 2 - (xs.length + 1)))[j]?).getD undef, by simp, hB, by simpa using hge, by omega, ⟨_, heap_alloc_new w.drew _, ?_, fun j hj => ?_⟩, fun j hj => ?_⟩⟩
    · simp only [Array.size_append, List.size_toArray, size_zeroCells, List.length_map, List.length_singleton, Value.cells]
      simp
      omega
    · have hsz : ((xs.map (Value.int .i64)).toArray ++ [Value.int .i64 x].toArray ++ Builtin.zeroCells (Value.int .i64 0).cells (grownCap w (xs.length + 1) old 2 - (xs.length + 1))).size = grownCap w (xs.length + 1) old 2 := by
        simp only [Array.size_append, List.size_toArray, size_zeroCells, List.length_map, List.length_singleton, Value.cells]
        simp
        omega
      show _ = some ((_ : Option Value).getD undef)
      rw [Array.getElem?_eq_getElem (by omega)]
      rfl
    · simp at hj
      simp only [Nat.zero_add]
      rw [Array.getElem?_append_left (by simp; omega)]
      by_cases e : j < xs.length
      · rw [Array.getElem?_append_left (by simpa using e)]
        simp [e, List.getElem?_append_left e]
      · obtain rfl : j = xs.length := by omega
        simp
  rcases h with ⟨rfl, rfl⟩ | ⟨g, o, cap, m, F, rfl, h1, h2, h3, h4, h5⟩
  · have hr := run_append_nil (P := P) w t ty 2 i (.int .i64 0) ht hi hz ad 1 c [.int .i64 x] (by simp [hs]) hnews (by omega) (by omega) (by rw [hb]; omega)
    have hn := new 0
    refine ⟨_, _, hr, ?_, ⟨rfl, rfl, rfl, by simp, fun k hk _ => (nbel_alloc w.drew _).block k hk⟩, Or.inr rfl⟩
    simpa using hn.2
  · have hlen := h5
    by_cases hroom : xs.length + 1 ≤ cap
    · obtain ⟨cur, q1, q2, q3⟩ := h4
      have hf := run_firstCells_some (P := P) w i.size 1 ad 1 c [.int .i64 x] (by simp [hs]) hnews
      have hst := run_storeCells_at P g (o + xs.length) 2 [.int .i64 x] 0 cur w q1 (by simp; omega) (by intro u hu; simp at hu; subst hu; rfl)
      simp only [Nat.add_zero] at hst
      refine ⟨.slice (some ⟨g, o, none⟩) (xs.length + 1) cap, w.setRow g (cur.toList.take (o + xs.length) ++ [Value.int .i64 x] ++ cur.toList.drop (o + xs.length + 1)).toArray, ?_, ?_, ?_, ?_⟩
      · rw [hs] at hf
        simp [Builtin.append_, run_underlying ht, sizeOf, typeInfo, hi, hs, Builtin.lenOf, hroom, hf, Addr.add_lit]
        simp at hst
        rw [hst]
        rfl
      · refine Or.inr ⟨g, o, cap, m, fun j => if j = o + xs.length then Value.int .i64 x else F j, by simp, h1, by simpa using hroom, h3, ⟨_, setRow_heap w g cur _ _ _ q1, ?_, fun j hj => ?_⟩, fun j hj => ?_⟩
        · simp; omega
        · have hj2 : j < cur.size := by omega
          have qj := q3 j hj
          rw [List.getElem?_toArray, put_one _ _ _ (by simpa using (show o + xs.length < cur.size by omega)), List.getElem?_set]
          by_cases e : o + xs.length = j
          · rw [if_pos e, if_pos (by simpa using (show o + xs.length < cur.size by omega))]
            simp [e]
          · rw [if_neg e]
            simp only [show ¬ j = o + xs.length from fun h => e h.symm, if_false]
            simpa using qj
        · simp at hj
          by_cases e : j < xs.length
          · simp only [show ¬ o + j = o + xs.length by omega, if_false]
            rw [h5 j e]
            simp [List.getElem?_append_left e]
          · obtain rfl : j = xs.length := by omega
            simp
      · exact ⟨rfl, rfl, rfl, by simp [World.setRow], fun k _ hk => setRow_other w g k _ (fun e => hk (by rw [e]; rfl))⟩
      · exact Or.inl rfl
    · have holds : ∀ j u, (xs.map (Value.int .i64))[j]? = some u → w.cell? ((⟨g, o, none⟩ : Addr).add j) = some u := by
        intro j u hu
        have hj : j < xs.length := by
          rcases Nat.lt_or_ge j xs.length with h | h
          · exact h
          · rw [List.getElem?_eq_none (by simpa using h)] at hu; cases hu
        simp [hj] at hu
        subst hu
        rw [Addr.add_lit, h4.cell (by omega), h5 j hj]
        simp [hj]
      have hr := run_append_grow (P := P) w t ty 2 i (.int .i64 0) ht hi hz ⟨g, o, none⟩ xs.length cap (xs.map (Value.int .i64)) (by simp [hs]) holds ad 1 c [.int .i64 x] (by simp [hs]) hnews (by omega) (by omega) (growslice_fits (by omega) (by rw [hb]; omega))
      exact ⟨_, _, hr, (new cap).2, ⟨rfl, rfl, rfl, by simp, fun k hk _ => (nbel_alloc w.drew _).block k hk⟩, Or.inr rfl⟩
theorem wp_append_q {o : Oper} {a : Act} {K : Act → World → Prop} {Q : Exit → Act → World → Prop} (s x : Operand) (t : TypeId)
    (ho : o.op = .call { callee := .builtin .append, args := #[s, x], argTypes := #[t, t] })
    (i : TypeInfo) (ht : P.underlying t = some (.slice 2)) (hi : P.info? 2 = some i) (hz : i.zero = some (.int .i64 0)) (hs : i.size = 1) (hb : i.bytes = 8)
    (B : Nat) (v : Value) (xs : List Int) (hv : a.eval s = v) (h : OwnQ B v xs w) (hl : xs.length ≤ 1048576) (hB : B ≤ w.heap.size) (ad : Addr) (c : Nat) (z : Int) (hx : a.eval x = .slice (some ad) 1 c) (hc : w.cell? ad = some (.int .i64 z))
    (hK : ∀ v' w', OwnQ B v' (xs ++ [z]) w' → w.grownBy w' v.ownBlock → (v'.ownBlock = v.ownBlock ∨ v'.ownBlock = some w.heap.size) → K (a.put o.dst v') w') : o.wp P a w K Q := by
  obtain ⟨v', w', hr, h2, h3, h4⟩ := run_append_q (P := P) w t o.type i ht hi hz hs hb h hl hB ad c z hc
  unfold Oper.wp execOp
  simp only [ho, resolve, invoke, builtin, Sem.run_bind, Sem.run_pure, Result.andThen_ok, List.map_toArray, List.map_cons, List.map_nil, hv, hx, hr]
  exact hK v' w' h2 h3 h4
theorem wpList_append_q {ops : Array Oper} {rest : List Oper} {o : Oper} {a : Act} {Q : Exit → Act → World → Prop} (hgd : o.guard = none) (s x : Operand) (t : TypeId)
    (ho : o.op = .call { callee := .builtin .append, args := #[s, x], argTypes := #[t, t] })
    (i : TypeInfo) (ht : P.underlying t = some (.slice 2)) (hi : P.info? 2 = some i) (hz : i.zero = some (.int .i64 0)) (hs : i.size = 1) (hb : i.bytes = 8)
    (B : Nat) (v : Value) (xs : List Int) (hv : a.eval s = v) (h : OwnQ B v xs w) (hl : xs.length ≤ 1048576) (hB : B ≤ w.heap.size) (ad : Addr) (c : Nat) (z : Int) (hx : a.eval x = .slice (some ad) 1 c) (hc : w.cell? ad = some (.int .i64 z))
    (hK : ∀ v' w', OwnQ B v' (xs ++ [z]) w' → w.grownBy w' v.ownBlock → (v'.ownBlock = v.ownBlock ∨ v'.ownBlock = some w.heap.size) → wpList P ops Q rest (a.put o.dst v') w') : wpList P ops Q (o :: rest) a w :=
  wpList_plain hgd fun _ hK2 => wp_append_q w s x t ho i ht hi hz hs hb B v xs hv h hl hB ad c z hx hc fun v' w' h2 h3 h4 => hK2 _ _ (hK v' w' h2 h3 h4)
end
end Go.Proofs.YtnbnfifgajfomaaDoor
