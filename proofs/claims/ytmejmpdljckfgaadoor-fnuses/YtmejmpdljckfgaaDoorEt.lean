/-
  The package variable that the program's errors are asked by.
-/
import Derived.Test.YtmejmpdljckfgaaDoorNums
namespace Go.Proofs.YtmejmpdljckfgaaDoor
open Go.RowKit

/-- The package variable that the program's errors are asked by. -/
def Et (w : World) : Prop := w.cell? ⟨0, 0, none⟩ = some (.iface 163 (.agg #[.pointer (some ⟨4, 81, none⟩)]))
theorem Et.below {w w' : World} (h : Et w) (hb : Below w.heap.size w w') : Et w' := (hb.cell (World.block_lt_of_cell? _ _ h)).trans h
theorem Et.alloc {w : World} (h : Et w) (ob : Obj) : Et (w.alloc ob) := h.below ((Below.refl _ _).alloc (Nat.le_refl _) _)
end Go.Proofs.YtmejmpdljckfgaaDoor
