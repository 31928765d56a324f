/-
  Frames that were read, in rows of their own.
-/
import Derived.Test.YtdlojhncbgfjbaaGreatDoorScanMath
import Derived.Test.YtdlojhncbgfjbaaGreatDoorFrSum
import Derived.Laws.AppendOwn
import Derived.OwnWalk
import Derived.Deep.OwnRows
import Derived.Deep.Heap
namespace Go.Proofs.YtdlojhncbgfjbaaGreatDoor
open Go.RowKit Go.Deep

theorem info_fr : (Tryz.prog.info? 70).map (fun i => (i.zero, i.size, i.bytes)) = some (some (.agg #[.int .i64 0, .int .i64 0, .int .i64 0, .string ⟨#[]⟩]), 4, 40) := by kernel_rfl
/-- The cells of a frame that was read. -/
def outCells (o : Fr.Out) : List Value := [.int .i64 o.u, .int .i64 o.k, .int .i64 o.s, .string ⟨o.b.toArray⟩]
/-- The cells of an answer of FramesOf. -/
def so4 (v : Value) (lost rest code : Int) (i : Nat) : Value := if i = 0 then v else if i = 1 then .int .i64 lost else if i = 2 then .int .i64 rest else .int .i64 code

theorem ownsRow_block {B n size : Nat} {e : TypeId} {v : Value} {xs : List Value} {W W' : World} (h : W.ownsRow B e size v n xs) (hb : ∀ k, B ≤ k → k < W.heap.size → W'.heap[k]? = W.heap[k]?) : W'.ownsRow B e size v n xs := by
  obtain ⟨h1, h2⟩ := h
  refine ⟨h1, ?_⟩
  rcases h2 with h2 | ⟨g, cap, cur, e1, e2, e3, e4⟩
  · exact Or.inl h2
  · refine Or.inr ⟨g, cap, cur, e1, e2, ?_, e4⟩
    have hlt : g < W.heap.size := by
      rcases Nat.lt_or_ge g W.heap.size with h | h
      · exact h
      · rw [Array.getElem?_eq_none h] at e3; cases e3
    rw [hb g e2 hlt]; exact e3
theorem ownsRow_set {B n size : Nat} {e : TypeId} {v : Value} {xs : List Value} {W : World} (h : W.ownsRow B e size v n xs) {p : Addr} (hp : p.block < B) (x : Value) : (W.setCell p x).ownsRow B e size v n xs := ownsRow_block h (fun k hk _ => blk_setCell_other _ _ _ _ (by omega))
theorem so4_row (v : Value) (a b c : Int) (i : Nat) (hi : i < (#[v, .int .i64 a, .int .i64 b, .int .i64 c] : Array Value).size) : (#[v, .int .i64 a, .int .i64 b, .int .i64 c] : Array Value)[i]? = some (so4 v a b c i) := by
  have hv : i = 0 ∨ i = 1 ∨ i = 2 ∨ i = 3 := by simp at hi; omega
  rcases hv with rfl | rfl | rfl | rfl <;> rfl
end Go.Proofs.YtdlojhncbgfjbaaGreatDoor
