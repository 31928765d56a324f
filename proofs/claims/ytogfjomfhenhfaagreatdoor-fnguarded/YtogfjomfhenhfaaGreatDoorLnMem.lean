/-
  Notes, stations and masters as they lie in memory.
-/
import Derived.Test.YtogfjomfhenhfaaGreatDoorNtMem
import Derived.Test.YtogfjomfhenhfaaGreatDoorLnMath
import Derived.Laws.AppendOwn
import Derived.Laws.AppendOwnNone
import Derived.Laws.OwnMore
namespace Go.Proofs.YtogfjomfhenhfaaGreatDoor
open Go.RowKit Go.Deep

theorem rowN7 {w : World} {g : Nat} {t : TypeId} {a b c d e f k : Value} (h : w.rowIs g t 7 (rowN [a, b, c, d, e, f, k])) : (w.cell? ⟨g, 0, none⟩ = some a ∧ w.cell? ⟨g, 1, none⟩ = some b ∧ w.cell? ⟨g, 2, none⟩ = some c ∧ w.cell? ⟨g, 3, none⟩ = some d ∧ w.cell? ⟨g, 4, none⟩ = some e ∧ w.cell? ⟨g, 5, none⟩ = some f ∧ w.cell? ⟨g, 6, none⟩ = some k) ∧ (w.frozen? ⟨g, 0, none⟩ = false ∧ w.frozen? ⟨g, 1, none⟩ = false ∧ w.frozen? ⟨g, 2, none⟩ = false ∧ w.frozen? ⟨g, 3, none⟩ = false ∧ w.frozen? ⟨g, 4, none⟩ = false ∧ w.frozen? ⟨g, 5, none⟩ = false ∧ w.frozen? ⟨g, 6, none⟩ = false) :=
  ⟨⟨h.cell (by omega), h.cell (by omega), h.cell (by omega), h.cell (by omega), h.cell (by omega), h.cell (by omega), h.cell (by omega)⟩, h.frozen 0, h.frozen 1, h.frozen 2, h.frozen 3, h.frozen 4, h.frozen 5, h.frozen 6⟩
theorem rowN11 {w : World} {g : Nat} {t : TypeId} {a0 a1 a2 a3 a4 a5 a6 a7 a8 a9 a10 : Value} (h : w.rowIs g t 11 (rowN [a0, a1, a2, a3, a4, a5, a6, a7, a8, a9, a10])) : (w.cell? ⟨g, 0, none⟩ = some a0 ∧ w.cell? ⟨g, 1, none⟩ = some a1 ∧ w.cell? ⟨g, 2, none⟩ = some a2 ∧ w.cell? ⟨g, 3, none⟩ = some a3 ∧ w.cell? ⟨g, 4, none⟩ = some a4 ∧ w.cell? ⟨g, 5, none⟩ = some a5 ∧ w.cell? ⟨g, 6, none⟩ = some a6 ∧ w.cell? ⟨g, 7, none⟩ = some a7 ∧ w.cell? ⟨g, 8, none⟩ = some a8 ∧ w.cell? ⟨g, 9, none⟩ = some a9 ∧ w.cell? ⟨g, 10, none⟩ = some a10) ∧ (w.frozen? ⟨g, 0, none⟩ = false ∧ w.frozen? ⟨g, 1, none⟩ = false ∧ w.frozen? ⟨g, 2, none⟩ = false ∧ w.frozen? ⟨g, 3, none⟩ = false ∧ w.frozen? ⟨g, 4, none⟩ = false ∧ w.frozen? ⟨g, 5, none⟩ = false ∧ w.frozen? ⟨g, 6, none⟩ = false ∧ w.frozen? ⟨g, 7, none⟩ = false ∧ w.frozen? ⟨g, 8, none⟩ = false ∧ w.frozen? ⟨g, 9, none⟩ = false ∧ w.frozen? ⟨g, 10, none⟩ = false) :=
  ⟨⟨h.cell (by omega), h.cell (by omega), h.cell (by omega), h.cell (by omega), h.cell (by omega), h.cell (by omega), h.cell (by omega), h.cell (by omega), h.cell (by omega), h.cell (by omega), h.cell (by omega)⟩, h.frozen 0, h.frozen 1, h.frozen 2, h.frozen 3, h.frozen 4, h.frozen 5, h.frozen 6, h.frozen 7, h.frozen 8, h.frozen 9, h.frozen 10⟩
theorem lnwrap {x : Int} (h1 : -9223372036854775808 ≤ x) (h2 : x ≤ 9223372036854775807) : IntKind.i64.wrap x = x := by simp [IntKind.wrap, IntKind.bits, IntKind.signed]; omega
theorem bihs (w : World) (g k : Nat) (h : g ≠ k) (i : Nat) (v : Value) : (w.setCell ⟨k, i, none⟩ v).heap[g]? = w.heap[g]? := Below.heap_setCell _ _ _ _ (by show g ≠ k; exact h)
theorem IsIn.congr {a : Option Addr} {N : Nat} {f g : Nat → Int} {w : World} (h : IsIn a N f w) (e : ∀ i, i < N → f i = g i) : IsIn a N g w := by
  rcases h with h | ⟨b, o, e1, h⟩
  · exact Or.inl h
  · exact Or.inr ⟨b, o, e1, fun i hi => by rw [← e i hi]; exact h i hi⟩
theorem IsAt.in_ {a : Option Addr} {N : Nat} {f : Nat → Int} {w : World} (h : IsAt a N f w) : IsIn a N f w := by
  rcases h with h | ⟨b, e, h⟩
  · exact Or.inl h
  · exact Or.inr ⟨b, 0, e, fun j hj => by rw [Nat.zero_add]; exact h j hj⟩
theorem IsIn.zero (a : Option Addr) (f : Nat → Int) (w : World) : IsIn a 0 f w := Or.inl rfl
/-- The value of a station. -/
abbrev stV (s : Ln.S) (a : Option Addr) (k : Nat) : Value := .agg #[.int .i64 s.unit, .int .i64 s.band, .bool s.seen, .int .i64 s.last, .int .i64 s.next, .slice a s.wait.length k, .int .i64 s.drops]
abbrev stL (s : Ln.S) (a : Option Addr) (k : Nat) : List Value := [.int .i64 s.unit, .int .i64 s.band, .bool s.seen, .int .i64 s.last, .int .i64 s.next, .slice a s.wait.length k, .int .i64 s.drops]
namespace Ln
/-- A master. -/
structure M where
  seq : Int
  notes : List Nt
  gaps : Int
end Ln
/-- The value of a master. -/
abbrev maV (m : Ln.M) (a : Option Addr) (k : Nat) : Value := .agg #[.int .i64 m.seq, .slice a m.notes.length k, .int .i64 m.gaps]
abbrev maL (m : Ln.M) (a : Option Addr) (k : Nat) : List Value := [.int .i64 m.seq, .slice a m.notes.length k, .int .i64 m.gaps]
/-- The value of an answer of LinkRun. -/
abbrev loL (s : Ln.S) (m : Ln.M) (a : Option Addr) (k : Nat) (b : Option Addr) (j : Nat) (cd : Int) : List Value := [.int .i64 s.unit, .int .i64 s.band, .bool s.seen, .int .i64 s.last, .int .i64 s.next, .slice a s.wait.length k, .int .i64 s.drops, .int .i64 m.seq, .slice b m.notes.length j, .int .i64 m.gaps, .int .i64 cd]
abbrev loV (s : Ln.S) (m : Ln.M) (a : Option Addr) (k : Nat) (b : Option Addr) (j : Nat) (cd : Int) : Value := .agg #[.int .i64 s.unit, .int .i64 s.band, .bool s.seen, .int .i64 s.last, .int .i64 s.next, .slice a s.wait.length k, .int .i64 s.drops, .int .i64 m.seq, .slice b m.notes.length j, .int .i64 m.gaps, .int .i64 cd]
/-- The cells of notes. -/
def nvs (l : List Ln.Nt) : List Value := l.flatMap fun n => [.int .i64 n.1, .int .i64 n.2]
theorem nvs_app (l m : List Ln.Nt) : nvs (l ++ m) = nvs l ++ nvs m := by simp [nvs]
theorem nvs_len (l : List Ln.Nt) : (nvs l).length = l.length * 2 := by
  induction l with
  | nil => rfl
  | cons x l ih => simp only [nvs, List.flatMap_cons, List.length_append, List.length_cons, List.length_nil] at ih ⊢; omega
theorem nvs_get (l : List Ln.Nt) (j : Nat) (h : j < l.length * 2) : (nvs l)[j]? = some (.int .i64 (Ln.fl l j)) := by
  induction l generalizing j with
  | nil => simp at h
  | cons x l ih =>
    match j with
    | 0 => rfl
    | 1 => rfl
    | j + 2 =>
      have e : Ln.fl (x :: l) (j + 2) = Ln.fl l j := by have := Ln.fl_tail (x :: l) j; rw [show j + 2 = 2 + j by omega, ← this]; rfl
      rw [e, ← ih j (by simp at h; omega)]
      rfl
theorem nvs_one (l : List Ln.Nt) : ∀ u ∈ nvs l, u.oneCell' = true := by
  intro u hu
  simp only [nvs, List.mem_flatMap] at hu
  obtain ⟨x, _, hx⟩ := hu
  simp at hx
  rcases hx with rfl | rfl <;> rfl
/-- Numbers in a block of the call's own, from a place on. -/
def NsBlk (T : TypeId) (g o N : Nat) (f : Nat → Int) (w : World) : Prop := ∃ m F, o + N ≤ m ∧ w.rowIs g T m F ∧ ∀ j, j < N → F (o + j) = .int .i64 (f j)
theorem NsBlk.lt {T : TypeId} {g o N : Nat} {f : Nat → Int} {w : World} (h : NsBlk T g o N f w) : g < w.heap.size := by obtain ⟨m, F, _, h, _⟩ := h; exact h.lt
theorem NsBlk.block {T : TypeId} {g o N : Nat} {f : Nat → Int} {w w' : World} (h : NsBlk T g o N f w) (e : w'.heap[g]? = w.heap[g]?) : NsBlk T g o N f w' := by obtain ⟨m, F, h1, h2, h3⟩ := h; exact ⟨m, F, h1, h2.of_block e, h3⟩
theorem NsBlk.cell {T : TypeId} {g o N i : Nat} {f : Nat → Int} {w : World} (h : NsBlk T g o N f w) (hi : i < N) : w.cell? ⟨g, o + i, none⟩ = some (.int .i64 (f i)) := by
  obtain ⟨m, F, h1, h2, h3⟩ := h
  rw [h2.cell (i := o + i) (by omega), h3 _ hi]
theorem NsBlk.congr {T : TypeId} {g o N : Nat} {f f' : Nat → Int} {w : World} (h : NsBlk T g o N f w) (e : ∀ j, j < N → f j = f' j) : NsBlk T g o N f' w := by
  obtain ⟨m, F, h1, h2, h3⟩ := h
  exact ⟨m, F, h1, h2, fun j hj => by rw [h3 j hj, e j hj]⟩
theorem IsBlk.ns {T : TypeId} {g N : Nat} {f : Nat → Int} {w : World} (h : IsBlk T g N f w) : NsBlk T g 0 N f w := by
  obtain ⟨m, F, h1, h2, h3⟩ := h
  exact ⟨m, F, by omega, h2, fun j hj => by rw [Nat.zero_add]; exact h3 j hj⟩
/-- Two numbers each of a list that an answer holds: its own memory, or none. -/
def NqOwn (T : TypeId) (B N : Nat) (a : Option Addr) (f : Nat → Int) (W : World) : Prop := N = 0 ∨ ∃ g o, a = some ⟨g, o, none⟩ ∧ B ≤ g ∧ NsBlk T g o (N * 2) f W
theorem NqOwn.same {T : TypeId} {B N : Nat} {a : Option Addr} {f : Nat → Int} {W W' : World} (h : NqOwn T B N a f W) (hb : ∀ k, B ≤ k → k < W.heap.size → W'.heap[k]? = W.heap[k]?) : NqOwn T B N a f W' := by
  rcases h with h | ⟨g, o, rfl, h1, h2⟩
  · exact Or.inl h
  · exact Or.inr ⟨g, o, rfl, h1, h2.block (hb g h1 h2.lt)⟩
theorem NqOwn.off {T : TypeId} {B C N : Nat} {a : Option Addr} {f : Nat → Int} {W W' : World} (h : NqOwn T B N a f W) (hl : ∀ g o, N ≠ 0 → a = some ⟨g, o, none⟩ → g < C) (hb : ∀ k, k < C → k < W.heap.size → W'.heap[k]? = W.heap[k]?) : NqOwn T B N a f W' := by
  rcases h with h | ⟨g, o, rfl, h1, h2⟩
  · exact Or.inl h
  · by_cases e : N = 0
    · exact Or.inl e
    · exact Or.inr ⟨g, o, rfl, h1, h2.block (hb g (hl g o e rfl) h2.lt)⟩
theorem NqOwn.below {T : TypeId} {B N : Nat} {a : Option Addr} {f : Nat → Int} {W W' : World} (h : NqOwn T B N a f W) (hb : Below W.heap.size W W') : NqOwn T B N a f W' := h.same (fun k _ hk => hb.block k hk)
theorem NqOwn.in_ {T : TypeId} {B N : Nat} {a : Option Addr} {f : Nat → Int} {W : World} (h : NqOwn T B N a f W) : IsIn a (N * 2) f W := by
  rcases h with h | ⟨g, o, rfl, h1, h2⟩
  · exact Or.inl (by omega)
  · exact Or.inr ⟨g, o, rfl, fun j hj => h2.cell hj⟩
theorem NqOwn.low {T : TypeId} {B B' N : Nat} {a : Option Addr} {f : Nat → Int} {W : World} (h : NqOwn T B N a f W) (hb : B' ≤ B) : NqOwn T B' N a f W := by
  rcases h with h | ⟨g, o, e, h1, h2⟩
  · exact Or.inl h
  · exact Or.inr ⟨g, o, e, Nat.le_trans hb h1, h2⟩
theorem NqOwn.lt {T : TypeId} {B N : Nat} {a : Option Addr} {f : Nat → Int} {W : World} (h : NqOwn T B N a f W) : ∀ g o, N ≠ 0 → a = some ⟨g, o, none⟩ → g < W.heap.size := by
  intro g o h0 e
  rcases h with h | ⟨g', o', e', h1, h2⟩
  · exact absurd h h0
  · rw [e'] at e; cases e; exact h2.lt
theorem NqOwn.congr {T : TypeId} {B N : Nat} {a : Option Addr} {f f' : Nat → Int} {W : World} (h : NqOwn T B N a f W) (e : ∀ j, j < N * 2 → f j = f' j) : NqOwn T B N a f' W := by
  rcases h with h | ⟨g, o, e1, h1, h2⟩
  · exact Or.inl h
  · exact Or.inr ⟨g, o, e1, h1, h2.congr e⟩
/-- What is owned as a list of notes. -/
theorem own_ns {T : TypeId} {B : Nat} {v : Value} {l : List Ln.Nt} {w : World} (h : w.ownsRow B T 2 v l.length (nvs l)) :
    ∃ a cap, v = .slice a l.length cap ∧ NqOwn T B l.length a (Ln.fl l) w ∧ ((a = none ∧ l.length = 0 ∧ cap = 0) ∨ ∃ g, a = some ⟨g, 0, none⟩ ∧ B ≤ g ∧ l.length ≤ cap ∧ ∃ F, w.rowIs g T (cap * 2) F ∧ ∀ j, j < l.length * 2 → F j = .int .i64 (Ln.fl l j)) := by
  rcases h.2 with ⟨rfl, h2⟩ | ⟨g, cap, cur, rfl, e2, e3, e4, e5, e6, e7⟩
  · exact ⟨none, 0, by rw [h2], Or.inl h2, Or.inl ⟨rfl, h2, rfl⟩⟩
  · have hF : ∀ j, j < l.length * 2 → cur[j]?.getD undef = .int .i64 (Ln.fl l j) := by
      intro j hj
      have h1 : (cur.toList.take (l.length * 2))[j]? = (nvs l)[j]? := by rw [e7]
      rw [List.getElem?_take, if_pos hj, Array.getElem?_toList, nvs_get l j hj] at h1
      rw [h1]; rfl
    have hr : w.rowIs g T (cap * 2) (fun i => cur[i]?.getD undef) := ⟨cur, e3, e6, fun i hi => by
      show cur[i]? = some (cur[i]?.getD undef)
      rw [Array.getElem?_eq_getElem (by omega)]
      rfl⟩
    exact ⟨_, cap, rfl, Or.inr ⟨g, 0, rfl, e2, cap * 2, _, by omega, hr, fun j hj => by rw [Nat.zero_add]; exact hF j hj⟩, Or.inr ⟨g, rfl, e2, e4, _, hr, hF⟩⟩
section
variable {P : Program}
/-- Notes appended that lie anywhere, or nowhere. -/
theorem run_append_ns (w : World) (t ty T : TypeId) (i : TypeInfo) (z : Value) (bytes : Nat) (ht : P.underlying t = some (.slice T)) (hi : P.info? T = some i) (hz : i.zero = some z) (hs : i.size = 2) (hb : i.bytes = bytes) (hc : z.cells.size = 2)
    (B : Nat) (v : Value) (l m : List Ln.Nt) (hown : w.ownsRow B T 2 v l.length (nvs l)) (a : Option Addr) (k : Nat) (hm : IsIn a (m.length * 2) (Ln.fl m) w)
    (h63 : l.length + m.length ≤ maxLen) (hby : (l.length + m.length) * bytes ≤ 140737488355328) (hB : B ≤ w.heap.size) :
    ∃ v' w', (Builtin.append_ #[t, t] ty #[v, .slice a m.length k]).run P w = .ok v' w' ∧ w'.ownsRow B T 2 v' (l ++ m).length (nvs (l ++ m)) ∧ w.grownBy w' v.ownBlock := by
  by_cases h0 : m.length = 0
  · have e : m = [] := List.eq_nil_of_length_eq_zero h0
    subst e
    refine ⟨v, w, ?_, by simpa using hown, ⟨rfl, rfl, rfl, Nat.le_refl _, fun _ _ _ => rfl⟩⟩
    rcases hown.2 with ⟨rfl, _⟩ | ⟨g, cap, cur, rfl, _, _, hnc, _⟩
    · cases a <;> simp [Builtin.append_, run_underlying ht, sizeOf, typeInfo, hi, Builtin.lenOf, Builtin.firstCells, loadCells, loadCellsFrom]
    · cases a <;> simp [Builtin.append_, run_underlying ht, sizeOf, typeInfo, hi, Builtin.lenOf, Builtin.firstCells, hnc, storeCells, loadCells, loadCellsFrom]
  · obtain ⟨b, o, rfl, hcell⟩ := hm.pos (by omega)
    obtain ⟨v', w', hr, h1, h2, _⟩ := run_append_own (P := P) w B t ty T i z 2 bytes ht hi hz hs hb hc (by decide) v l.length (nvs l) hown ⟨b, o, none⟩ m.length k (nvs m) (nvs_len m) (fun j u hj => by
      have hjn : j < m.length * 2 := by
        have := (List.getElem?_eq_some_iff.1 hj).1
        rwa [nvs_len] at this
      rw [nvs_get m j hjn] at hj
      cases hj
      rw [Addr.add_lit]
      exact hcell j hjn) (nvs_one m) h63 hby hB
    exact ⟨v', w', hr, by rw [List.length_append, nvs_app]; exact h1, h2⟩
theorem wp_append_ns {o : Oper} {a : Act} {w : World} {K : Act → World → Prop} {Q : Exit → Act → World → Prop} (s x : Operand) (t : TypeId)
    (ho : o.op = .call { callee := .builtin .append, args := #[s, x], argTypes := #[t, t] })
    (T : TypeId) (i : TypeInfo) (z : Value) (bytes : Nat) (ht : P.underlying t = some (.slice T)) (hi : P.info? T = some i) (hz : i.zero = some z) (hs : i.size = 2) (hb : i.bytes = bytes) (hc : z.cells.size = 2)
    (B : Nat) (v : Value) (l m : List Ln.Nt) (hv : a.eval s = v) (hown : w.ownsRow B T 2 v l.length (nvs l)) (ad : Option Addr) (k : Nat) (hx : a.eval x = .slice ad m.length k) (hm : IsIn ad (m.length * 2) (Ln.fl m) w)
    (h63 : l.length + m.length ≤ maxLen) (hby : (l.length + m.length) * bytes ≤ 140737488355328) (hB : B ≤ w.heap.size)
    (hK : ∀ v' w', w'.ownsRow B T 2 v' (l ++ m).length (nvs (l ++ m)) → w.grownBy w' v.ownBlock → K (a.put o.dst v') w') : o.wp P a w K Q := by
  obtain ⟨v', w', hr, h2, h3⟩ := run_append_ns (P := P) w t o.type T i z bytes ht hi hz hs hb hc B v l m hown ad k hm h63 hby hB
  unfold Oper.wp execOp
  simp only [ho, resolve, invoke, builtin, Sem.run_bind, Sem.run_pure, Result.andThen_ok, List.map_toArray, List.map_cons, List.map_nil, hv, hx, hr]
  exact hK v' w' h2 h3
theorem wpList_append_ns {ops : Array Oper} {rest : List Oper} {o : Oper} {a : Act} {w : World} {Q : Exit → Act → World → Prop} (hgd : o.guard = none) (s x : Operand) (t : TypeId)
    (ho : o.op = .call { callee := .builtin .append, args := #[s, x], argTypes := #[t, t] })
    (T : TypeId) (i : TypeInfo) (z : Value) (bytes : Nat) (ht : P.underlying t = some (.slice T)) (hi : P.info? T = some i) (hz : i.zero = some z) (hs : i.size = 2) (hb : i.bytes = bytes) (hc : z.cells.size = 2)
    (B : Nat) (v : Value) (l m : List Ln.Nt) (hv : a.eval s = v) (hown : w.ownsRow B T 2 v l.length (nvs l)) (ad : Option Addr) (k : Nat) (hx : a.eval x = .slice ad m.length k) (hm : IsIn ad (m.length * 2) (Ln.fl m) w)
    (h63 : l.length + m.length ≤ maxLen) (hby : (l.length + m.length) * bytes ≤ 140737488355328) (hB : B ≤ w.heap.size)
    (hK : ∀ v' w', w'.ownsRow B T 2 v' (l ++ m).length (nvs (l ++ m)) → w.grownBy w' v.ownBlock → wpList P ops Q rest (a.put o.dst v') w') : wpList P ops Q (o :: rest) a w :=
  wpList_plain hgd fun _ hK2 => wp_append_ns s x t ho T i z bytes ht hi hz hs hb hc B v l m hv hown ad k hx hm h63 hby hB fun v' w' h2 h3 => hK2 _ _ (hK v' w' h2 h3)
theorem step_append_ns {ops : Array Oper} {o : Oper} {a : Act} {w : World} {K : Act → World → Prop} {Q : Exit → Act → World → Prop} {E : Prop} (hg : o.guard = none) (s x : Operand) (t : TypeId)
    (ho : o.op = .call { callee := .builtin .append, args := #[s, x], argTypes := #[t, t] })
    (T : TypeId) (i : TypeInfo) (z : Value) (bytes : Nat) (ht : P.underlying t = some (.slice T)) (hi : P.info? T = some i) (hz : i.zero = some z) (hs : i.size = 2) (hb : i.bytes = bytes) (hc : z.cells.size = 2)
    (B : Nat) (v : Value) (l m : List Ln.Nt) (hv : a.eval s = v) (hown : w.ownsRow B T 2 v l.length (nvs l)) (ad : Option Addr) (k : Nat) (hx : a.eval x = .slice ad m.length k) (hm : IsIn ad (m.length * 2) (Ln.fl m) w)
    (h63 : l.length + m.length ≤ maxLen) (hby : (l.length + m.length) * bytes ≤ 140737488355328) (hB : B ≤ w.heap.size)
    (hK : ∀ v' w', w'.ownsRow B T 2 v' (l ++ m).length (nvs (l ++ m)) → w.grownBy w' v.ownBlock → K (a.put o.dst v') w') :
    if Region.wanted o (yielded ops a.tmps) = true then Oper.wp P o a w K Q else E := by
  have hw : Region.wanted o (yielded ops a.tmps) = true := by simp [Region.wanted, hg]
  rw [if_pos hw]
  exact wp_append_ns s x t ho T i z bytes ht hi hz hs hb hc B v l m hv hown ad k hx hm h63 hby hB hK
end
/-- One note in a block of its own. -/
theorem one_in (w : World) (T : TypeId) (q x : Int) : IsIn (some ⟨w.heap.size, 0, none⟩) (([(q, x)] : List Ln.Nt).length * 2) (Ln.fl [(q, x)]) (w.alloc (.cells #[.int .i64 q, .int .i64 x] T)) := by
  refine Or.inr ⟨w.heap.size, 0, rfl, fun j hj => ?_⟩
  have e : j = 0 ∨ j = 1 := by simp at hj; omega
  have h := rowN2 (rowN_alloc w [.int .i64 q, .int .i64 x] T)
  rcases e with rfl | rfl
  · exact h.1.1
  · exact h.1.2
theorem lnbelow_grown {B : Nat} {w W W' : World} {row : Option Nat} (h : Below B w W) (hs : B ≤ W.heap.size) (hg : W.grownBy W' row) (hr : ∀ k, row = some k → B ≤ k) : Below B w W' :=
  ⟨hg.os.trans h.os, hg.tape.trans h.tape, hg.output.trans h.output, Nat.le_trans h.size hg.size, fun k hk => (hg.block k (by omega) (fun e => by have := hr k e.symm; omega)).trans (h.block k hk)⟩
end Go.Proofs.YtogfjomfhenhfaaGreatDoor
