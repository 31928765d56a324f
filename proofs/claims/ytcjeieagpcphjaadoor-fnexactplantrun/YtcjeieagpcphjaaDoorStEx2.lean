/-
  The laws' conversions and comparisons of whole stores.
-/
import Derived.Test.YtcjeieagpcphjaaDoorStEx1
namespace Go.Proofs.YtcjeieagpcphjaaDoor
open Go.RowKit Go.Deep

def r3 (a b c : Value) : Nat → Value := fun i => if i = 0 then a else if i = 1 then b else c
theorem row3 (w : World) (a b c : Value) (t : TypeId) : (w.alloc (.cells #[a, b, c] t)).rowIs w.heap.size t 3 (r3 a b c) := by
  refine ⟨_, blk_alloc_new _ _, rfl, fun i hi => ?_⟩
  have h3 : i = 0 ∨ i = 1 ∨ i = 2 := by omega
  rcases h3 with rfl | rfl | rfl <;> rfl
theorem row_below {w w' : World} {g : Nat} {t : TypeId} {m : Nat} {F : Nat → Value} (h : w.rowIs g t m F) (hb : Below w.heap.size w w') : w'.rowIs g t m F := h.of_block (hb.block _ h.lt)
theorem row_set {w : World} {g : Nat} {t : TypeId} {m : Nat} {F : Nat → Value} (h : w.rowIs g t m F) {p : Addr} (hp : g ≠ p.block) (u : Value) : (w.setCell p u).rowIs g t m F := h.of_block (Below.heap_setCell _ _ _ _ hp)
theorem row3_cells {w : World} {g : Nat} {t : TypeId} {a b c : Value} (h : w.rowIs g t 3 (r3 a b c)) : (w.cell? ⟨g, 0, none⟩ = some a ∧ w.cell? ⟨g, 1, none⟩ = some b ∧ w.cell? ⟨g, 2, none⟩ = some c) ∧ (w.frozen? ⟨g, 0, none⟩ = false ∧ w.frozen? ⟨g, 1, none⟩ = false ∧ w.frozen? ⟨g, 2, none⟩ = false) :=
  ⟨⟨h.cell (i := 0) (by omega), h.cell (i := 1) (by omega), h.cell (i := 2) (by omega)⟩, h.frozen 0, h.frozen 1, h.frozen 2⟩
theorem row3_set0 {w : World} {g : Nat} {t : TypeId} {a b c : Value} (h : w.rowIs g t 3 (r3 a b c)) (u : Value) : (w.setCell ⟨g, 0, none⟩ u).rowIs g t 3 (r3 u b c) := by
  obtain ⟨cur, h1, h2, h3⟩ := h.set 0 u
  refine ⟨cur, h1, h2, fun i hi => ?_⟩
  rw [h3 i hi]
  have : i = 0 ∨ i = 1 ∨ i = 2 := by omega
  rcases this with rfl | rfl | rfl <;> rfl

theorem row3_put {w : World} {g : Nat} {t : TypeId} {a b c : Value} (h : w.rowIs g t 3 (r3 a b c)) (x y z : Value) : (((w.setCell ⟨g, 0, none⟩ x).setCell ⟨g, 1, none⟩ y).setCell ⟨g, 2, none⟩ z).rowIs g t 3 (r3 x y z) := by
  obtain ⟨cur, h1, h2, h3⟩ := ((h.set 0 x).set 1 y).set 2 z
  refine ⟨cur, h1, h2, fun i hi => ?_⟩
  rw [h3 i hi]
  have : i = 0 ∨ i = 1 ∨ i = 2 := by omega
  rcases this with rfl | rfl | rfl <;> rfl
theorem heap5 (w : World) (p q g : Nat) (hp : g ≠ p) (hq : g ≠ q) (a b c d e : Value) : (((((w.setCell ⟨p, 1, none⟩ a).setCell ⟨p, 2, none⟩ b).setCell ⟨q, 0, none⟩ c).setCell ⟨q, 1, none⟩ d).setCell ⟨q, 2, none⟩ e).heap[g]? = w.heap[g]? :=
  (Below.heap_setCell _ ⟨q, 2, none⟩ _ _ hq).trans ((Below.heap_setCell _ ⟨q, 1, none⟩ _ _ hq).trans ((Below.heap_setCell _ ⟨q, 0, none⟩ _ _ hq).trans ((Below.heap_setCell _ ⟨p, 2, none⟩ _ _ hp).trans (Below.heap_setCell _ ⟨p, 1, none⟩ _ _ hp))))

end Go.Proofs.YtcjeieagpcphjaaDoor
