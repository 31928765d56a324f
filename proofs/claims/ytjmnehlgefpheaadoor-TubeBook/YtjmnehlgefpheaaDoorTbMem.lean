/-
  Parcels and tubes as values; lists that an answer owns.
-/
import Derived.Test.YtjmnehlgefpheaaDoorNtMem
import Derived.Test.YtjmnehlgefpheaaDoorTbMath
namespace Go.Proofs.YtjmnehlgefpheaaDoor
open Go.RowKit Go.Deep

abbrev pcV (p : Tb.Pc) : Value := .agg #[.int .i64 p.w, .int .i64 p.g, .int .i64 p.b]
abbrev pcL (p : Tb.Pc) : List Value := [.int .i64 p.w, .int .i64 p.g, .int .i64 p.b]
abbrev tbV (r : Int) (a : Option Addr) (n k : Nat) : Value := .agg #[.int .i64 r, .slice a n k]
abbrev toV (r : Int) (a : Option Addr) (n k : Nat) (p : Option Addr) (m d : Nat) (c : Int) : Value := .agg #[.int .i64 r, .slice a n k, .slice p m d, .int .i64 c]
abbrev toL (r : Int) (a : Option Addr) (n k : Nat) (p : Option Addr) (m d : Nat) (c : Int) : List Value := [.int .i64 r, .slice a n k, .slice p m d, .int .i64 c]
/-- A list that an answer is: its own memory, or none. -/
def OwL (T : TypeId) (B N : Nat) (a : Option Addr) (c : Nat) (f : Nat → Int) (W : World) : Prop := (a = none ∧ N = 0 ∧ c = 0) ∨ ∃ g, a = some ⟨g, 0, none⟩ ∧ B ≤ g ∧ IsBlk T g N f W
theorem OwL.same {T : TypeId} {B N c : Nat} {a : Option Addr} {f : Nat → Int} {W W' : World} (h : OwL T B N a c f W) (hb : ∀ k, B ≤ k → k < W.heap.size → W'.heap[k]? = W.heap[k]?) : OwL T B N a c f W' := by
  rcases h with h | ⟨g, e, h1, h2⟩
  · exact Or.inl h
  · exact Or.inr ⟨g, e, h1, h2.block (hb g h1 h2.lt)⟩
theorem OwL.below {T : TypeId} {B N c : Nat} {a : Option Addr} {f : Nat → Int} {W W' : World} (h : OwL T B N a c f W) (hb : Below W.heap.size W W') : OwL T B N a c f W' := h.same (fun k _ hk => hb.block k hk)
theorem OwL.at_ {T : TypeId} {B N c : Nat} {a : Option Addr} {f : Nat → Int} {W : World} (h : OwL T B N a c f W) : IsAt a N f W := by
  rcases h with h | ⟨g, e, h1, h2⟩
  · exact Or.inl h.2.1
  · rw [e]; exact h2.at_
theorem OwL.low {T : TypeId} {B B' N c : Nat} {a : Option Addr} {f : Nat → Int} {W : World} (h : OwL T B N a c f W) (hb : B' ≤ B) : OwL T B' N a c f W := by
  rcases h with h | ⟨g, e, h1, h2⟩
  · exact Or.inl h
  · exact Or.inr ⟨g, e, Nat.le_trans hb h1, h2⟩
theorem OwL.congr {T : TypeId} {B N c : Nat} {a : Option Addr} {f f' : Nat → Int} {W : World} (h : OwL T B N a c f W) (e : ∀ j, j < N → f j = f' j) : OwL T B N a c f' W := by
  rcases h with h | ⟨g, e1, h1, h2⟩
  · exact Or.inl h
  · exact Or.inr ⟨g, e1, h1, h2.congr e⟩
theorem OwL.keep {T : TypeId} {B N c : Nat} {a : Option Addr} {f : Nat → Int} {W W' : World} (h : OwL T B N a c f W) (hb : ∀ k, a = some ⟨k, 0, none⟩ → k < W.heap.size → W'.heap[k]? = W.heap[k]?) : OwL T B N a c f W' := by
  rcases h with h | ⟨g, e, h1, h2⟩
  · exact Or.inl h
  · exact Or.inr ⟨g, e, h1, h2.block (hb g e h2.lt)⟩
theorem OwL.lt {T : TypeId} {B N c : Nat} {a : Option Addr} {f : Nat → Int} {W : World} (h : OwL T B N a c f W) {k : Nat} (e : a = some ⟨k, 0, none⟩) : B ≤ k ∧ k < W.heap.size := by
  rcases h with h | ⟨g, e', h1, h2⟩
  · rw [h.1] at e; cases e
  · rw [e'] at e; cases e; exact ⟨h1, h2.lt⟩
theorem OwL.none_ {T : TypeId} {B n c : Nat} {a : Option Addr} {f : Nat → Int} {W : World} (h : OwL T B (n * 3) a c f W) (e : a = none) : n = 0 ∧ c = 0 := by
  rcases h with h | ⟨g, e', h1, h2⟩
  · exact ⟨by have := h.2.1; omega, h.2.2⟩
  · rw [e'] at e; cases e
/-- What may have changed: the block of one list. -/
structure OnlyO (a : Option Addr) (w w' : World) : Prop where
  os : w'.os = w.os
  tape : w'.tape = w.tape
  output : w'.output = w.output
  size : w.heap.size ≤ w'.heap.size
  block : ∀ k, k < w.heap.size → a ≠ some ⟨k, 0, none⟩ → w'.heap[k]? = w.heap[k]?
/-- The cells of parcels, one behind the other. -/
def pv (l : List Tb.Pc) : List Value := l.flatMap pcL
theorem pv_len (l : List Tb.Pc) : (pv l).length = l.length * 3 := by
  induction l with
  | nil => rfl
  | cons p l ih => simp only [pv, List.flatMap_cons, List.length_append, List.length_cons, List.length_nil] at *; omega
theorem pv_app (a b : List Tb.Pc) : pv (a ++ b) = pv a ++ pv b := by simp [pv]
theorem pv_one (p : Tb.Pc) : pv [p] = pcL p := by simp [pv]
theorem pv_get (l : List Tb.Pc) {j : Nat} (hj : j < l.length * 3) : (pv l)[j]? = some (.int .i64 (Tb.fl l j)) := by
  induction l generalizing j with
  | nil => simp at hj
  | cons p l ih =>
    show (pcL p ++ pv l)[j]? = _
    match j, hj with
    | 0, _ => rfl
    | 1, _ => rfl
    | 2, _ => rfl
    | j + 3, hj =>
      rw [List.getElem?_append_right (by simp)]
      have e : j + 3 - (pcL p).length = j := by simp
      rw [e, ih (by simp at hj; omega)]
      have e3 : (j + 3) / 3 = j / 3 + 1 := by omega
      have e4 : (j + 3) % 3 = j % 3 := by omega
      have e5 : Tb.pg (p :: l) (j / 3 + 1) = Tb.pg l (j / 3) := by simp [Tb.pg]
      unfold Tb.fl
      rw [e3, e4, e5]
theorem pv_undef {l : List Tb.Pc} {u : Value} (h : u ∈ pv l) : ∃ x : Int, u = .int .i64 x := by
  unfold pv at h
  obtain ⟨p, _, hp⟩ := List.mem_flatMap.1 h
  simp at hp
  rcases hp with rfl | rfl | rfl <;> exact ⟨_, rfl⟩
/-- A list that a call owns, opened. -/
theorem owl_of {T : TypeId} {B : Nat} {l : List Tb.Pc} {v : Value} {W : World} (h : W.ownsRow B T 3 v l.length (pv l)) : ∃ a c, v = .slice a l.length c ∧ OwL T B (l.length * 3) a c (Tb.fl l) W := by
  rcases h.2 with h2 | ⟨g, cap, cur, e1, e2, e3, e4, e5, e6, e7⟩
  · exact ⟨none, 0, by rw [h2.1, h2.2], Or.inl ⟨rfl, by have := h2.2; omega, rfl⟩⟩
  · refine ⟨_, _, e1, Or.inr ⟨g, rfl, e2, cap * 3, fun i => cur[i]?.getD undef, by omega, ⟨cur, e3, by simpa using e6, fun i hi => ?_⟩, fun j hj => ?_⟩⟩
    · show cur[i]? = some (cur[i]?.getD undef)
      rw [Array.getElem?_eq_getElem (by omega)]
      rfl
    · have h1 : (cur.toList.take (l.length * 3))[j]? = (pv l)[j]? := by rw [e7]
      rw [List.getElem?_take, if_pos (by omega), Array.getElem?_toList] at h1
      show cur[j]?.getD undef = _
      rw [h1, pv_get l hj]
      rfl
/-- Parcels that came in, as a list. -/
theorem isIn_list {a : Option Addr} {n : Nat} {f : Nat → Int} {w : World} (h : IsIn a (n * 3) f w) : ∃ l : List Tb.Pc, l.length = n ∧ IsIn a (l.length * 3) (Tb.fl l) w := by
  refine ⟨Tb.ofN f n, Tb.ofN_len f n, ?_⟩
  rw [Tb.ofN_len]
  rcases h with h | ⟨b, o, e, h⟩
  · exact Or.inl h
  · exact Or.inr ⟨b, o, e, fun j hj => by rw [h j hj, Tb.fl_ofN f hj]⟩
/-- A parcel of a list that can be read. -/
theorem IsAt.pc {a : Option Addr} {l : List Tb.Pc} {i : Nat} {w : World} (h : IsAt a (l.length * 3) (Tb.fl l) w) (hi : i < l.length) : ∃ b, a = some ⟨b, 0, none⟩ ∧ w.cell? ⟨b, i * 3, none⟩ = some (.int .i64 (Tb.pg l i).w) ∧ w.cell? ⟨b, i * 3 + 1, none⟩ = some (.int .i64 (Tb.pg l i).g) ∧ w.cell? ⟨b, i * 3 + 2, none⟩ = some (.int .i64 (Tb.pg l i).b) := by
  obtain ⟨b, e, c0, c1, c2⟩ := h.at3 hi
  rw [Tb.fl0] at c0
  rw [Tb.fl1] at c1
  rw [Tb.fl2] at c2
  exact ⟨b, e, c0, c1, c2⟩
end Go.Proofs.YtjmnehlgefpheaaDoor
