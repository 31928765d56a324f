/-
  A list that an answer is: its own memory, or none.
-/
import Derived.Test.YtbkpedcabbppbaaDoorNtMem
namespace Go.Proofs.YtbkpedcabbppbaaDoor
open Go.RowKit Go.Deep

/-- A list that an answer is: its own memory, or none. -/
def LsOwn (T : TypeId) (s B N : Nat) (a : Option Addr) (c : Nat) (f : Nat → Int) (W : World) : Prop := (a = none ∧ N = 0 ∧ c = 0) ∨ ∃ g, a = some ⟨g, 0, none⟩ ∧ B ≤ g ∧ IsBlk T g (N * s) f W
theorem LsOwn.same {T : TypeId} {s B N c : Nat} {a : Option Addr} {f : Nat → Int} {W W' : World} (h : LsOwn T s B N a c f W) (hb : ∀ k, B ≤ k → k < W.heap.size → W'.heap[k]? = W.heap[k]?) : LsOwn T s B N a c f W' := by
  rcases h with h | ⟨g, e, h1, h2⟩
  · exact Or.inl h
  · exact Or.inr ⟨g, e, h1, h2.block (hb g h1 h2.lt)⟩
theorem LsOwn.below {T : TypeId} {s B N c : Nat} {a : Option Addr} {f : Nat → Int} {W W' : World} (h : LsOwn T s B N a c f W) (hb : Below W.heap.size W W') : LsOwn T s B N a c f W' := h.same (fun k _ hk => hb.block k hk)
theorem LsOwn.at_ {T : TypeId} {s B N c : Nat} {a : Option Addr} {f : Nat → Int} {W : World} (h : LsOwn T s B N a c f W) : IsAt a (N * s) f W := by
  rcases h with h | ⟨g, e, h1, h2⟩
  · exact Or.inl (by rw [h.2.1]; simp)
  · rw [e]; exact h2.at_
theorem LsOwn.low {T : TypeId} {s B B' N c : Nat} {a : Option Addr} {f : Nat → Int} {W : World} (h : LsOwn T s B N a c f W) (hb : B' ≤ B) : LsOwn T s B' N a c f W := by
  rcases h with h | ⟨g, e, h1, h2⟩
  · exact Or.inl h
  · exact Or.inr ⟨g, e, Nat.le_trans hb h1, h2⟩
theorem LsOwn.lt {T : TypeId} {s B N c : Nat} {a : Option Addr} {f : Nat → Int} {W : World} (h : LsOwn T s B N a c f W) {k : Nat} (e : a = some ⟨k, 0, none⟩) : B ≤ k ∧ k < W.heap.size := by
  rcases h with h | ⟨g, e', h1, h2⟩
  · rw [h.1] at e; cases e
  · rw [e'] at e; cases e; exact ⟨h1, h2.lt⟩
end Go.Proofs.YtbkpedcabbppbaaDoor
