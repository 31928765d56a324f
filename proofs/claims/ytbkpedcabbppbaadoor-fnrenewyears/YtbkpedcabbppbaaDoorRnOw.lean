/-
  Lists of places that grow.
-/
import Derived.Test.YtbkpedcabbppbaaDoorRnMem
import Derived.Deep.AppendLies
namespace Go.Proofs.YtbkpedcabbppbaaDoor
open Go.RowKit Go.Deep

/-- The cells of a list of places. -/
def rnVs (l : List Nat) : List Value := l.map (fun x : Nat => Value.int .i64 (x : Int))
theorem rnVs_app (l : List Nat) (x : Nat) : rnVs (l ++ [x]) = rnVs l ++ [.int .i64 (x : Int)] := by simp [rnVs]
theorem rnVs_at {l : List Nat} {j : Nat} (h : j < l.length) : (rnVs l)[j]? = some (.int .i64 (Rn.nf l j)) := by
  unfold rnVs Rn.nf
  simp [List.getElem?_eq_getElem h]
theorem rown_shape {B n size : Nat} {e : TypeId} {v : Value} {xs : List Value} {W : World} (h : W.ownsRow B e size v n xs) : ∃ a c, v = .slice a n c := by
  rcases h.2 with h | ⟨g, cp, _, e, _⟩
  · exact ⟨none, 0, by rw [h.1, h.2]⟩
  · exact ⟨_, _, e⟩
theorem rown_low {B B' n size : Nat} {e : TypeId} {v : Value} {xs : List Value} {W : World} (h : W.ownsRow B e size v n xs) (hb : B' ≤ B) : W.ownsRow B' e size v n xs := ⟨h.1, h.2.imp id (fun ⟨g, cap, cur, e1, e2, r⟩ => ⟨g, cap, cur, e1, Nat.le_trans hb e2, r⟩)⟩
theorem rown_below {B n s : Nat} {t : TypeId} {v : Value} {xs : List Value} {W W' : World} (h : W.ownsRow B t s v n xs) (hb : Below W.heap.size W W') : W'.ownsRow B t s v n xs := by
  refine ⟨h.1, ?_⟩
  rcases h.2 with h2 | ⟨g, cap, cur, e1, e2, e3, e4, e5, e6, e7⟩
  · exact Or.inl h2
  · exact Or.inr ⟨g, cap, cur, e1, e2, (hb.block g (Array.getElem?_eq_some_iff.1 e3).1).trans e3, e4, e5, e6, e7⟩
theorem rown_typ {B n s : Nat} {t : TypeId} {v : Value} {xs : List Value} {W : World} (h : W.ownsRow B t s v n xs) {g : Nat} (hg : v.ownBlock = some g) : ∃ cur, W.heap[g]? = some (.cells cur t (0, 0)) := by
  rcases h.2 with h2 | ⟨g', cap, cur, e, _, h3, _⟩
  · rw [h2.1] at hg; cases hg
  · rw [e] at hg
    have : g' = g := by simpa [Value.ownBlock] using hg
    subst this
    exact ⟨cur, h3⟩
theorem rls_own {B : Nat} {v : Value} {l : List Nat} {W : World} (h : W.ownsRow B 2 1 v l.length (rnVs l)) : ∃ a c, v = .slice a l.length c ∧ LsOwn 2 1 B l.length a c (Rn.nf l) W := by
  rcases h.2 with h2 | ⟨g, cap, cur, e1, e2, e3, e4, e5, e6, e7⟩
  · exact ⟨none, 0, by rw [h2.1, h2.2], Or.inl ⟨rfl, h2.2, rfl⟩⟩
  · refine ⟨some ⟨g, 0, none⟩, _, e1, Or.inr ⟨g, rfl, e2, cap, fun i => cur[i]?.getD undef, by omega, ⟨cur, e3, by simpa using e6, fun i hi => ?_⟩, fun j hj => ?_⟩⟩
    · show cur[i]? = some (cur[i]?.getD undef)
      rw [Array.getElem?_eq_getElem (by omega)]
      rfl
    · have h1 : (cur.toList.take (l.length * 1))[j]? = (rnVs l)[j]? := by rw [e7]
      rw [List.getElem?_take, if_pos (by omega), Array.getElem?_toList] at h1
      show cur[j]?.getD undef = _
      rw [h1, rnVs_at (by omega)]
      rfl
end Go.Proofs.YtbkpedcabbppbaaDoor
