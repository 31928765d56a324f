/-
  The law FnExactBatchRight.
-/
import Derived.Test.YtoeibcmmpbkbpaaDoorWkEx
namespace Go.Proofs.YtoeibcmmpbkbpaaDoor
open Go.RowKit Go.Deep

/-- What stands while a law's last region compares a batch with the one that came in. -/
def LwB (w : World) (gb gx : Nat) (A X : Nat → Value) (P : World → Prop) (W : World) : Prop := W.rowIs gb 77 2 A ∧ W.rowIs gx 49 2 X ∧ P W ∧ Below w.heap.size w W
theorem LwB.below {w : World} {gb gx : Nat} {A X : Nat → Value} {P : World → Prop} (hP : ∀ W W', P W → Below W.heap.size W W' → P W') {W W' : World} (h : LwB w gb gx A X P W) (hb : Below W.heap.size W W') : LwB w gb gx A X P W' :=
  ⟨wrow_below h.1 hb, wrow_below h.2.1 hb, hP W W' h.2.2.1 hb, h.2.2.2.trans (hb.mono h.2.2.2.size)⟩
theorem LwB.inb {w : World} {gb gx g n : Nat} {f : Nat → Int} {A X : Nat → Value} {W W' : World} (h : LwB w gb gx A X (InBlk g n f) W) (hb : Below W.heap.size W W') : LwB w gb gx A X (InBlk g n f) W' := h.below (fun _ _ hp hb => hp.below hb) hb

end Go.Proofs.YtoeibcmmpbkbpaaDoor
