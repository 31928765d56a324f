/-
  Lists that a call owns: what they look like, where they stay.
-/
import Derived.Test.YtdpghhmcibiplaaDoorRvI2
import Derived.Deep.AppendLies
namespace Go.Proofs.YtdpghhmcibiplaaDoor
open Go.RowKit Go.Deep

theorem own_far {B n size : Nat} {e : TypeId} {v : Value} {xs : List Value} {W W' : World} (h : W.ownsRow B e size v n xs) (hb : ∀ k, v.ownBlock = some k → k < W.heap.size → W'.heap[k]? = W.heap[k]?) : W'.ownsRow B e size v n xs := by
  obtain ⟨h1, h2⟩ := h
  refine ⟨h1, ?_⟩
  rcases h2 with h2 | ⟨g, cap, cur, e1, e2, e3, e4⟩
  · exact Or.inl h2
  · refine Or.inr ⟨g, cap, cur, e1, e2, ?_, e4⟩
    have hlt : g < W.heap.size := by
      rcases Nat.lt_or_ge g W.heap.size with h | h
      · exact h
      · rw [Array.getElem?_eq_none h] at e3; cases e3
    rw [hb g (by rw [e1]; rfl) hlt]; exact e3
theorem own_shape {B n size : Nat} {e : TypeId} {v : Value} {xs : List Value} {W : World} (h : W.ownsRow B e size v n xs) : ∃ a c, v = .slice a n c := by
  rcases h.2 with h | ⟨g, cp, _, e, _⟩
  · exact ⟨none, 0, by rw [h.1, h.2]⟩
  · exact ⟨_, _, e⟩
/-- The cells of numbers. -/
def inVs (f : Nat → Int) (n : Nat) : List Value := (listOf f n).map (Value.int .i64)
theorem inVs_succ (f : Nat → Int) (n : Nat) (x : Int) : inVs (Rv.upd f n x) (n + 1) = inVs f n ++ [.int .i64 x] := by
  unfold inVs
  rw [listOf_succ, List.map_append, Rv.upd_same]
  congr 2
  unfold listOf
  refine List.map_congr_left (fun j hj => ?_)
  exact Rv.upd_ne _ _ (by have := List.mem_range.1 hj; omega)

end Go.Proofs.YtdpghhmcibiplaaDoor
