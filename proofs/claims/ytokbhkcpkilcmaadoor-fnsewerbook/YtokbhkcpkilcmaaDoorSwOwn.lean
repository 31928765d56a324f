/-
  Lists that a call owns: what they look like, where they stay.
-/
import Derived.Test.YtokbhkcpkilcmaaDoorSwI2
import Derived.Deep.AppendLies
namespace Go.Proofs.YtokbhkcpkilcmaaDoor
open Go.RowKit Go.Deep

theorem own_far {B n size : Nat} {e : TypeId} {v : Value} {xs : List Value} {W W' : World} (h : W.ownsRow B e size v n xs) (hb : ∀ k, v.ownBlock = some k → k < W.heap.size → W'.heap[k]? = W.heap[k]?) : W'.ownsRow B e size v n xs := by
  obtain ⟨h1, h2⟩ := h
  refine ⟨h1, ?_⟩
  rcases h2 with h2 | ⟨g, cap, cur, e1, e2, e3, e4⟩
  · exact Or.inl h2
  · refine Or.inr ⟨g, cap, cur, e1, e2, ?_, e4⟩
    have hlt : g < W.heap.size := by
      rcases Nat.lt_or_ge g W.heap.size with h | h
      · exact h
      · rw [Array.getElem?_eq_none h] at e3; cases e3
    rw [hb g (by rw [e1]; rfl) hlt]; exact e3
theorem own_shape {B n size : Nat} {e : TypeId} {v : Value} {xs : List Value} {W : World} (h : W.ownsRow B e size v n xs) : ∃ a c, v = .slice a n c := by
  rcases h.2 with h | ⟨g, cp, _, e, _⟩
  · exact ⟨none, 0, by rw [h.1, h.2]⟩
  · exact ⟨_, _, e⟩
/-- What a list of places is, as cells. -/
def natVs (l : List Nat) : List Value := l.map (fun (k : Nat) => Value.int .i64 (k : Int))
theorem natVs_app (l : List Nat) (k : Nat) : natVs (l ++ [k]) = natVs l ++ [.int .i64 (k : Int)] := by simp [natVs]
/-- What is owned as a list of numbers is a block of them. -/
def inList (zs : List Int) : Nat → Int := fun j => zs.getD j 0
theorem map_inVs (zs : List Int) : zs.map (Value.int .i64) = inVs (inList zs) zs.length := by
  refine List.ext_getElem? (fun j => ?_)
  by_cases h : j < zs.length
  · rw [inVs_get _ h, List.getElem?_map, List.getElem?_eq_getElem h]
    simp [inList, h]
  · rw [List.getElem?_eq_none (by simp; omega), List.getElem?_eq_none (by rw [inVs_len]; omega)]
theorem own_ints {B : Nat} {v : Value} {zs : List Int} {w : World} (h : w.ownsRow B 2 1 v zs.length (zs.map (Value.int .i64))) :
    (v = .slice none 0 0 ∧ zs = []) ∨ ∃ g cap, v = .slice (some ⟨g, 0, none⟩) zs.length cap ∧ B ≤ g ∧ InBlk g zs.length (inList zs) w := by
  have h' : w.ownsRow B 2 1 v zs.length (inVs (inList zs) (zs.length * 1)) := by rw [Nat.mul_one, ← map_inVs]; exact h
  rcases own_flat h' with ⟨e1, e2⟩ | ⟨g, cap, e1, e2, e3⟩
  · exact Or.inl ⟨e1, List.length_eq_zero_iff.1 e2⟩
  · exact Or.inr ⟨g, cap, e1, e2, by rw [Nat.mul_one] at e3; exact e3⟩
/-- What is owned as a list of numbers. -/
theorem own_vs {B n : Nat} {v : Value} {f : Nat → Int} {W : World} (h : W.ownsRow B 2 1 v n (inVs f n)) (hn : 1 ≤ n) : ∃ g cap, v = .slice (some ⟨g, 0, none⟩) n cap ∧ InBlk g n f W ∧ B ≤ g := by
  have h' : W.ownsRow B 2 1 v n (inVs f (n * 1)) := by rw [Nat.mul_one]; exact h
  rcases own_flat h' with ⟨_, e⟩ | ⟨g, cap, e1, e2, e3⟩
  · omega
  · rw [Nat.mul_one] at e3
    exact ⟨g, cap, e1, e3, e2⟩
end Go.Proofs.YtokbhkcpkilcmaaDoor
