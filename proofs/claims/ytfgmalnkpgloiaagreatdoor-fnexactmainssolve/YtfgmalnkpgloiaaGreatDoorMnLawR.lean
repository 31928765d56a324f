/-
  The law FnExactMainsRight.
-/
import Derived.Test.YtfgmalnkpgloiaaGreatDoorMnEx3
import Derived.Test.YtfgmalnkpgloiaaGreatDoorMnS1
import Derived.Test.YtfgmalnkpgloiaaGreatDoorMnIn
namespace Go.Proofs.YtfgmalnkpgloiaaGreatDoor
open Go.RowKit Go.Deep

/-- What stands in a law over a net: its own block, the block of the net that was handed to the program, its lists, the old memory, and more. -/
structure ML (w : World) (m : Mn.Mains) (pa : Option Addr) (pk : Nat) (la : Option Addr) (lk : Nat) (wa : Option Addr) (wk : Nat) (X B E gp gl : Nat) (hh : Nat → Nat) (gw : Nat) (P : World → Prop) (W : World) : Prop where
  ra : W.rowIs w.heap.size 45 5 (rowN (mnL m pa pk la lk wa wk))
  rx : W.rowIs X 27 5 (rowN (mnL m (some ⟨gp, 0, none⟩) m.pn (some ⟨gl, 0, none⟩) m.ln (some ⟨gw, 0, none⟩) m.wn))
  kx : MnBlk m B E gp gl hh gw W
  old : Below w.heap.size w W
  p : P W
/-- It lasts. -/
def Lasts (P : World → Prop) : Prop := ∀ W W', Below W.heap.size W W' → P W → P W'
theorem ML.below {w : World} {m : Mn.Mains} {pa : Option Addr} {pk : Nat} {la : Option Addr} {lk : Nat} {wa : Option Addr} {wk : Nat} {X B E gp gl : Nat} {hh : Nat → Nat} {gw : Nat} {P : World → Prop} {W W' : World} (hP : Lasts P) (h : ML w m pa pk la lk wa wk X B E gp gl hh gw P W) (hb : Below W.heap.size W W') : ML w m pa pk la lk wa wk X B E gp gl hh gw P W' :=
  ⟨nrow_below h.ra hb, nrow_below h.rx hb, h.kx.below hb, h.old.trans (hb.mono h.old.size), hP _ _ hb h.p⟩
theorem lasts_true : Lasts (fun _ => True) := fun _ _ _ _ => trivial
end Go.Proofs.YtfgmalnkpgloiaaGreatDoor
