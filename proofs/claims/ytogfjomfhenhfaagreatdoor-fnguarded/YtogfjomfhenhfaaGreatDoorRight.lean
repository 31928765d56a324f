/-
  The contracts of the copy of a fraction, of both packages' test of a right one, and of the program's lowest terms.
-/
import Derived.Test.YtogfjomfhenhfaaGreatDoorErr
namespace Go.Proofs.YtogfjomfhenhfaaGreatDoor
open Go.RowKit

theorem bcell {W w1 : World} (hb : Below W.heap.size W w1) : (∀ b o, b < W.heap.size → w1.cell? ⟨b, o, none⟩ = W.cell? ⟨b, o, none⟩) ∧ (∀ b o, b < W.heap.size → w1.frozen? ⟨b, o, none⟩ = W.frozen? ⟨b, o, none⟩) :=
  ⟨fun b o h => hb.cell (p := ⟨b, o, none⟩) h, fun b o h => hb.frozen (p := ⟨b, o, none⟩) h⟩


end Go.Proofs.YtogfjomfhenhfaaGreatDoor
