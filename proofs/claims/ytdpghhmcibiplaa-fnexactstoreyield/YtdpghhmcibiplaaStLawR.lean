/-
  The law FnExactStoreRight.
-/
import Derived.Test.YtdpghhmcibiplaaStEx2
import Derived.Test.YtdpghhmcibiplaaStS1
namespace Go.Proofs.Ytdpghhmcibiplaa
open Go.RowKit Go.Deep

/-- What stands while a law's last region compares a store with the one that came in. -/
def LawS (w : World) (gb gx : Nat) (A X : Nat → Value) (P : World → Prop) (W : World) : Prop := W.rowIs gb 25 3 A ∧ W.rowIs gx 32 3 X ∧ P W ∧ Below w.heap.size w W
theorem LawS.below {w : World} {gb gx : Nat} {A X : Nat → Value} {P : World → Prop} (hP : ∀ W W', P W → Below W.heap.size W W' → P W') {W W' : World} (h : LawS w gb gx A X P W) (hb : Below W.heap.size W W') : LawS w gb gx A X P W' :=
  ⟨row_below h.1 hb, row_below h.2.1 hb, hP W W' h.2.2.1 hb, h.2.2.2.trans (hb.mono h.2.2.2.size)⟩

theorem LawS.stb {w : World} {gb gx B g1 g2 cn rn : Nat} {c r : Nat → St.Pr} {A X : Nat → Value} {W W' : World} (h : LawS w gb gx A X (StBlk B g1 g2 cn c rn r) W) (hb : Below W.heap.size W W') : LawS w gb gx A X (StBlk B g1 g2 cn c rn r) W' := h.below (fun _ _ hp hb => hp.below hb) hb

end Go.Proofs.Ytdpghhmcibiplaa
